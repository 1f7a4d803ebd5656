/- A clause entered: its start, and one literal more. -/
import Derived.Test.YthpebfojkpnojaaGreatJam
/- A clause entered: its start, and one literal more. -/
namespace Bas
theorem look_new_some (L : List E) (e e' : E) (h : e.id = e'.id) (i : Int) : (look (L ++ [e]) i).isSome = (look (L ++ [e']) i).isSome := by
  rw [look_new, look_new, h]
  cases look L i with
  | some _ => rfl
  | none => split <;> rfl
theorem look_old {L : List E} (e : E) {i : Int} (h : i ≠ e.id) : look (L ++ [e]) i = look L i := by
  rw [look_new, if_neg (fun e1 => h e1.symm)]
  cases look L i <;> rfl
theorem look_top (L : List E) (e : E) : (look (L ++ [e]) e.id).isSome = true := by
  rw [look_new, if_pos rfl]
  cases look L e.id <;> rfl
theorem occ_mem {L : List E} {l i : Int} (h : i ∈ occ L l) : ∃ e ∈ L, e.id = i := by
  unfold occ at h
  obtain ⟨e, he, rfl⟩ := List.mem_map.1 h
  exact ⟨e, (List.mem_filter.1 he).1, rfl⟩
/-- The row's last id is the new one just where the literal came already. -/
theorem row_yes {L : List E} {ids : List Int} {id x : Int} {t : List Int} {red : Bool} (hf : ids.filter (fun i => (look (L ++ [⟨id, t, red⟩]) i).isSome) = occ (L ++ [⟨id, t, red⟩]) x) (hs : ids.Pairwise (· < ·)) (hb : ∀ i ∈ ids, i ≤ id) (ht : t.contains x = true) : 0 < ids.length ∧ ids.getD (ids.length - 1) 0 = id := by
  have hm : id ∈ ids := by
    have : id ∈ ids.filter (fun i => (look (L ++ [⟨id, t, red⟩]) i).isSome) := by
      rw [hf, occ_new]
      simp only [ht, if_true]
      exact List.mem_append_right _ (List.mem_singleton.2 rfl)
    exact (List.mem_filter.1 this).1
  obtain ⟨j, hj, e⟩ := List.mem_iff_getElem.1 hm
  have hl : 0 < ids.length := by omega
  refine ⟨hl, ?_⟩
  rw [List.getD, List.getElem?_eq_getElem (show ids.length - 1 < ids.length by omega)]
  show ids[ids.length - 1] = id
  by_cases h1 : j = ids.length - 1
  · subst h1; exact e
  · have h2 := List.pairwise_iff_getElem.1 hs j (ids.length - 1) hj (by omega) (by omega)
    have h3 := hb _ (List.getElem_mem (show ids.length - 1 < ids.length by omega))
    omega
theorem row_no {L : List E} {ids : List Int} {id x : Int} {t : List Int} {red : Bool} (hf : ids.filter (fun i => (look (L ++ [⟨id, t, red⟩]) i).isSome) = occ (L ++ [⟨id, t, red⟩]) x) (hL : ∀ e ∈ L, e.id < id) (ht : t.contains x = false) : id ∉ ids := fun hm => by
  have : id ∈ ids.filter (fun i => (look (L ++ [⟨id, t, red⟩]) i).isSome) := List.mem_filter.2 ⟨hm, look_top L ⟨id, t, red⟩⟩
  rw [hf, occ_new] at this
  simp only [ht, Bool.false_eq_true, if_false, List.append_nil] at this
  obtain ⟨e, he, h1⟩ := occ_mem this
  have := hL e he
  omega
theorem occ_same {L : List E} {id x : Int} {t : List Int} {red : Bool} (ht : t.contains x = true) (l : Int) : occ (L ++ [⟨id, t ++ [x], red⟩]) l = occ (L ++ [⟨id, t, red⟩]) l := by
  rw [occ_new, occ_new]
  congr 1
  by_cases h : l = x
  · subst h
    have h2 : (t ++ [l]).contains l = true := by simp
    simp only [h2, ht]
  · have h2 : (t ++ [x]).contains l = t.contains l := by
      rw [Bool.eq_iff_iff]
      simp [h]
    simp only [h2]
theorem occ_else {L : List E} {id x : Int} {t : List Int} {red : Bool} {l : Int} (h : l ≠ x) : occ (L ++ [⟨id, t ++ [x], red⟩]) l = occ (L ++ [⟨id, t, red⟩]) l := by
  rw [occ_new, occ_new]
  congr 1
  have h2 : (t ++ [x]).contains l = t.contains l := by
    rw [Bool.eq_iff_iff]
    simp [h]
  simp only [h2]
theorem occ_put {L : List E} {id x : Int} {t : List Int} {red : Bool} (ht : t.contains x = false) : occ (L ++ [⟨id, t ++ [x], red⟩]) x = occ (L ++ [⟨id, t, red⟩]) x ++ [id] := by
  rw [occ_new, occ_new]
  have h2 : (t ++ [x]).contains x = true := by simp
  simp only [h2, ht, if_true, Bool.false_eq_true, if_false, List.append_nil]
end Bas
namespace Go.Proofs.YthpebfojkpnojaaGreat
open Go.RowKit Go.Maps
set_option linter.unusedVariables false
set_option linter.unusedSimpArgs false
set_option maxRecDepth 100000
/-- The rows' list may be told otherwise. -/
theorem Bx.turn {M : Nat → Prop} {bb K : Nat} {s : Bas.S} {L2 L3 : List Bas.E} {W : World} (h : Bx M bb K s L2 W) (hs : ∀ i, (Bas.look L3 i).isSome = (Bas.look L2 i).isSome) (ho : ∀ l, Bas.occ L3 l = Bas.occ L2 l) : Bx M bb K s L3 W := by
  obtain ⟨hv, bm, br, k, k2, f, g, rv, sv, tv, R, Z, rw', ids, iv, hb, m1, m2, m3, hne, ha, ⟨b1, b2, b3, b4, b5⟩, hr⟩ := h
  refine ⟨hv, bm, br, k, k2, f, g, rv, sv, tv, R, Z, rw', ids, iv, hb, m1, m2, m3, hne, ha, ⟨b1, b2, fun l v hlv => ?_, fun l hl => by rw [ho]; exact b4 l hl, b5⟩, hr⟩
  obtain ⟨p1, p2, p3, p5, p6, p7⟩ := b3 l v hlv
  exact ⟨p1, p2, p3, p5, by rw [ho, ← p6]; congr 1; funext i; exact hs i, p7⟩
theorem Bx.last {M : Nat → Prop} {bb K : Nat} {s : Bas.S} {L2 : List Bas.E} {W : World} (h : Bx M bb K s L2 W) : W.cell? ⟨bb, 2, none⟩ = some (.int .i64 s.last) := by
  obtain ⟨hv, bm, br, k, k2, f, g, rv, sv, tv, R, Z, rw', ids, iv, hb, _⟩ := h
  exact row_cell hb 2
theorem Bx.rows {M : Nat → Prop} {bb K : Nat} {s : Bas.S} {L2 : List Bas.E} {W : World} (h : Bx M bb K s L2 W) (l : Int) (hl : I32 l) : ∃ br v ok, W.cell? ⟨bb, 4, none⟩ = some (.map (some br)) ∧ (Instr.lookup 72 (.map (some br)) (.int .i32 l) true).run Tryz.prog W = .ok (.tuple #[v, .bool ok]) W := by
  obtain ⟨br, k2, g, x4, mbr, hMr, _⟩ := h.rowed l
  exact ⟨br, _, _, x4, hMr.look hl⟩
/-- What a row that stands offers. -/
def InRow (M : Nat → Prop) (bb K : Nat) (s : Bas.S) (id : Int) (L3 : List Bas.E) (W : World) (rb : Nat) (o : Option Addr) (n c : Nat) : Prop :=
  (0 < n ∧ (∃ b off, o = some ⟨b, off, none⟩ ∧ W.cell? ⟨b, off + (n - 1), none⟩ = some (.int .i64 id)) ∧ Bx M bb K s L3 W) ∨
  ((n = 0 ∨ 0 < n ∧ ∃ b off y, o = some ⟨b, off, none⟩ ∧ W.cell? ⟨b, off + (n - 1), none⟩ = some (.int .i64 y) ∧ y ≠ id) ∧
    ∀ W1, Below W.heap.size W W1 → ∃ g c' B, (Builtin.append_ #[39, 39] 39 #[.slice o n c, .slice (some ⟨W1.heap.size, 0, none⟩) 1 1]).run Tryz.prog (W1.alloc (.cells #[.int .i64 id] 2)) = .ok (.slice (some ⟨g, 0, none⟩) (n + 1) c') B ∧ B.cell? ⟨rb, 0, none⟩ = some (.slice o n c) ∧ B.frozen? ⟨rb, 0, none⟩ = false ∧
      ∀ W4, B.setCell ⟨rb, 0, none⟩ (.slice (some ⟨g, 0, none⟩) (n + 1) c') = W4 → ∃ M', Bx M' bb K s L3 W4 ∧ Fm M W W4 ∧ Mn W M M')
set_option maxHeartbeats 1000000 in
theorem Bx.inRow {M : Nat → Prop} {bb K : Nat} {s : Bas.S} {L : List Bas.E} {id : Int} {t : List Int} {red : Bool} {W : World} (h : Bx M bb K s (L ++ [⟨id, t, red⟩]) W) (hsl : s.last = id) (h0 : 0 < id) (hid1 : id ≤ 100000000) (hL : ∀ e ∈ L, e.id < id) (x : Int) (hx : I32 x) (br : Nat) (v : Value) (hbr : W.cell? ⟨bb, 4, none⟩ = some (.map (some br))) (hlk : (Instr.lookup 72 (.map (some br)) (.int .i32 x) true).run Tryz.prog W = .ok (.tuple #[v, .bool true]) W) :
    ∃ rb o n c, v = .pointer (some ⟨rb, 0, none⟩) ∧ (W.cell? ⟨rb, 0, none⟩ = some (.slice o n c) ∧ W.frozen? ⟨rb, 0, none⟩ = false ∧ n ≤ 100000000 ∧ n ≤ c ∧ rb < W.heap.size) ∧ InRow M bb K s id (L ++ [⟨id, t ++ [x], red⟩]) W rb o n c := by
  have hh := h
  obtain ⟨br2, k2, g, x4, mbr, hMr, hcase⟩ := h.rowed x
  obtain rfl : br2 = br := by rw [hbr] at x4; simpa using x4.symm
  rw [hMr.look hx] at hlk
  rcases hcase with ⟨hg, _⟩ | ⟨rb, o, c, go, la, ids, hg, hmrb, hrb, hgl, hown, hownM, hocc, hsrt, hfin⟩
  · rw [hg] at hlk; simp at hlk
  · rw [hg] at hlk
    simp only [Option.getD_some, Option.isSome_some, Result.ok.injEq, Value.tuple.injEq, and_true] at hlk
    have hv : v = .pointer (some ⟨rb, 0, none⟩) := by simpa using hlk.symm
    have hlen : ids.length ≤ 100000000 := by
      have := sorted_len ids 0 s.last hsrt.1 hsrt.2 (by omega)
      omega
    have hb' : ∀ i ∈ ids, i ≤ id := fun i hi => by have := hsrt.2 i hi; omega
    have hcn : ids.length ≤ c := by
      rcases hown.2 with ⟨e1, h9⟩ | ⟨g', cap, cur, e1, _, _, h4, _⟩
      · omega
      · injection e1 with _ _ e1; omega
    have hrow : Hnts W o ids := own_row hown (fun i hi => by have := hsrt.2 i hi; omega)
    refine ⟨rb, o, ids.length, c, hv, ⟨row_cell hrb 0, row_frozen hrb 0, hlen, hcn, lt_of_blk hrb⟩, ?_⟩
    by_cases ht : t.contains x = true
    · obtain ⟨hp, hlast⟩ := Bas.row_yes hocc hsrt.1 hb' ht
      obtain ⟨b, off, e, _, hc, _⟩ := Row.at hrow (j := ids.length - 1) (by omega)
      rw [hlast] at hc
      exact .inl ⟨hp, ⟨b, off, e, hc⟩, hh.turn (fun i => Bas.look_new_some _ _ _ (by rfl) i) (fun l => Bas.occ_same ht l)⟩
    · have ht' : t.contains x = false := by simpa using ht
      have hno := Bas.row_no hocc hL ht'
      refine .inr ⟨?_, fun W1 hb1 => ?_⟩
      · by_cases hn : ids.length = 0
        · exact .inl hn
        · obtain ⟨b, off, e, _, hc, _⟩ := Row.at hrow (j := ids.length - 1) (by omega)
          refine .inr ⟨by omega, b, off, _, e, hc, fun e1 => hno ?_⟩
          rw [← e1]
          exact getD_mem ids _ (by omega)
      · obtain ⟨g', c', B, hr, ho', hgr, hgg⟩ := push2 (own_below hown hb1) id (Nat.zero_le _) (by omega)
        have hobl : (Value.slice o ids.length c).ownBlock ≠ some rb := fun hq => by
          obtain ⟨_, cur, h9⟩ := own_blk hown hq
          rw [hrb] at h9
          injection h9 with h9; injection h9 with _ h9 _; cases h9
        have hlt := lt_of_blk hrb
        have hal := below_box W1 (.cells #[.int .i64 id] 2)
        have hB : ∀ q, q < W.heap.size → (Value.slice o ids.length c).ownBlock ≠ some q → B.heap[q]? = W.heap[q]? := fun q hq hne => ((hgr.block q (by have := hb1.size; have := hal.size; omega) (fun e => hne e.symm)).trans (hal.block q (by have := hb1.size; omega))).trans (hb1.block q hq)
        have hBrb := (hB rb hlt hobl).trans hrb
        have hsB : W.heap.size ≤ B.heap.size := Nat.le_trans hb1.size (Nat.le_trans hal.size hgr.size)
        refine ⟨g', c', B, hr, row_cell hBrb 0, row_frozen hBrb 0, fun W4 hW4 => ?_⟩
        have h4 : W4.heap[rb]? = some (.cells #[.slice (some ⟨g', 0, none⟩) (ids.length + 1) c', .int .i64 go, .int .i64 la] 88 (0, 0)) := by rw [← hW4]; exact heap_set_row hBrb _
        have hk4 : ∀ q, q ≠ rb → W4.heap[q]? = B.heap[q]? := fun q hq => by rw [← hW4]; exact heap_other _ _ hq
        have hs4 : W4.heap.size = B.heap.size := by rw [← hW4]; simp [World.setCell]
        have hF4 : Fm M W W4 := ⟨by rw [← hW4]; exact hgr.os.trans (hal.os.trans hb1.os), by rw [← hW4]; exact hgr.tape.trans (hal.tape.trans hb1.tape), by rw [← hW4]; exact hgr.output.trans (hal.output.trans hb1.output), by omega, fun q hq hnm => (hk4 q (fun e => hnm (e ▸ hmrb))).trans (hB q hq (fun e => hnm (hownM q e)))⟩
        have ho4 : W4.ownsRow 0 2 1 (.slice (some ⟨g', 0, none⟩) (ids.length + 1) c') (ids ++ [id]).length ((ids ++ [id]).map (Value.int .i64)) := by
          have : (ids ++ [id]).length = ids.length + 1 := by simp
          rw [this]
          refine own_keep ho' (fun q cs hq h9 => hk4 q (fun e => ?_))
          rw [e, hBrb] at h9
          injection h9 with h9; injection h9 with _ h9 _; cases h9
        have hgn : ∀ q, (Value.slice (some ⟨g', 0, none⟩) (ids.length + 1) c').ownBlock = some q → (Value.slice o ids.length c).ownBlock = some q ∨ W.heap.size ≤ q := fun q hq => by
          have : g' = q := by simpa [Value.ownBlock] using hq
          subst this
          rcases hgg with h9 | h9
          · exact .inl h9
          · right; rw [h9]; have := hb1.size; omega
        obtain ⟨M', hB4, hN4, _⟩ := hfin W4 _ (ids ++ [id]) go la (L ++ [⟨id, t ++ [x], red⟩]) (fun i => Bas.look_new_some _ _ _ (by rfl) i) (fun l' hl' => Bas.occ_else hl') hgl.out.1 hgl.out.2 hF4 (fun q hq hne hne2 => (hk4 q hne).trans (hB q hq hne2)) h4 ho4 hgn (by
            rw [Bas.occ_put ht', ← hocc, List.filter_append]
            congr 1
            · congr 1
              funext i
              exact Bas.look_new_some _ _ _ (by rfl) i
            · rw [List.filter_cons, if_pos (Bas.look_top L ⟨id, t ++ [x], red⟩)]; rfl) ⟨by
            rw [List.pairwise_append]
            refine ⟨hsrt.1, List.pairwise_singleton _ _, fun a ha b hb => ?_⟩
            obtain rfl := List.mem_singleton.1 hb
            have h1 := hb' a ha
            have h2 : a ≠ b := fun e => hno (e ▸ ha)
            omega, fun i hi => by
            rcases List.mem_append.1 hi with hi | hi
            · exact hsrt.2 i hi
            · obtain rfl := List.mem_singleton.1 hi; omega⟩
        exact ⟨M', hB4, hF4, hN4⟩
end Go.Proofs.YthpebfojkpnojaaGreat

/- enter: the next id is taken, and the clause put under it. -/
namespace Bas
def entered (s : S) (lits : List Int) (red : Bool) : S := { s with last := s.last + 1, live := s.live ++ [⟨s.last + 1, lits, red⟩] }
end Bas
namespace Go.Proofs.YthpebfojkpnojaaGreat
open Go.RowKit Go.Maps
set_option linter.unusedVariables false
set_option linter.unusedSimpArgs false
set_option maxRecDepth 100000
theorem Bx.toS' {M : Nat → Prop} {bb K : Nat} {s : Bas.S} {L : List Bas.E} {W : World} (h : Bx M bb K s L W) (e : L = s.live) : Bs M bb K s W := by
  subst e; exact h.toS
set_option maxHeartbeats 1000000 in
theorem Bs.enterX {M : Nat → Prop} {bb K : Nat} {s : Bas.S} {W : World} (h : Bs M bb K s W) (hK : K < maxLen) (h0 : 0 ≤ s.last) (hL : s.last < 100000000) (hg : ∀ e ∈ s.live, e.id ≤ s.last) (lits : List Int) (red : Bool) (a : Option Addr) (c : Nat) (hl : LI M W a lits) (hc : lits.length ≤ c ∧ c ≤ maxLen) :
    ∃ bm, W.cell? ⟨bb, 2, none⟩ = some (.int .i64 s.last) ∧ W.frozen? ⟨bb, 2, none⟩ = false ∧ W.cell? ⟨bb, 3, none⟩ = some (.map (some bm)) ∧ ∀ W1, W.setCell ⟨bb, 2, none⟩ (.int .i64 (s.last + 1)) = W1 → W1.cell? ⟨bb, 2, none⟩ = some (.int .i64 (s.last + 1)) ∧ W1.cell? ⟨bb, 3, none⟩ = some (.map (some bm)) ∧
      ∃ W2, (Instr.mapUpdate 71 (.map (some bm)) (.int .i64 (s.last + 1)) (.agg #[.int .i64 (s.last + 1), .slice a lits.length c, .bool red])).run Tryz.prog W1.drew = .ok () W2 ∧ Bx M bb (K + 1) (Bas.entered s lits red) (s.live ++ [⟨s.last + 1, [], red⟩]) W2 ∧ Fm M W W2 := by
  obtain ⟨hv, bm, br, k, k2, f, g, rv, sv, tv, R, Z, rw', ids, iv, hb, m1, m2, m3, hne, ⟨a1, a2, a3⟩, ⟨b1, b2, b3, b4, b5⟩, ⟨c1, c2, c3⟩, ⟨d1, d2, d3⟩, e1⟩ := h
  refine ⟨bm, row_cell hb 2, row_frozen hb 2, row_cell hb 3, fun W1 hW1 => ?_⟩
  have hb1 : W1.heap[bb]? = some (.cells #[.int .i64 s.vars, .int .i64 s.form, .int .i64 (s.last + 1), .map (some bm), .map (some br), rv, .int .i64 (Bas.nsteps s : Nat), sv, tv] 76 (0, 0)) := by rw [← hW1]; exact heap_set_row hb _
  refine ⟨row_cell hb1 2, row_cell hb1 3, ?_⟩
  have hk1 : ∀ q, q ≠ bb → W1.drew.heap[q]? = W.heap[q]? := fun q hq => by rw [← hW1]; exact heap_other W _ hq
  have hs1 : W1.drew.heap.size = W.heap.size := by rw [← hW1]; simp [World.setCell, World.drew]
  have hbm : bm ≠ bb := fun e => by
    obtain ⟨es, cl, h9⟩ := a1.obj
    rw [e, hb] at h9; cases h9
  have hbr : br ≠ bb := fun e => by
    obtain ⟨es, cl, h9⟩ := b1.obj
    rw [e, hb] at h9; cases h9
  have hi : I64 (s.last + 1) := ⟨by omega, by omega⟩
  obtain ⟨W2, hr, hM2, hmt⟩ := (a1.same (hk1 bm hbm)).put hi (by omega) (.agg #[.int .i64 (s.last + 1), .slice a lits.length c, .bool red])
  have hk : ∀ q, q < W.heap.size → q ≠ bb → q ≠ bm → W2.heap[q]? = W.heap[q]? := fun q hq h1 h2 => (hmt.grown.block q (by rw [hs1]; exact hq) (fun e => h2 (by simpa using e))).trans (hk1 q h1)
  have hs : W.heap.size ≤ W2.heap.size := by rw [← hs1]; exact hmt.grown.size
  have hn : ∀ q, q < W.heap.size → ¬ M q → W2.heap[q]? = W.heap[q]? := fun q hq hnm => hk q hq (fun e => hnm (e ▸ m1)) (fun e => hnm (e ▸ m2))
  have hF : Fm M W W2 := ⟨by rw [hmt.grown.os, ← hW1]; rfl, by rw [hmt.grown.tape, ← hW1]; rfl, by rw [hmt.grown.output, ← hW1]; rfl, hs, hn⟩
  have hcl : ∀ (q : Nat) (cs : Array Value) (t : TypeId), t ≠ 76 → W.heap[q]? = some (.cells cs t (0, 0)) → W2.heap[q]? = W.heap[q]? := fun q cs t ht hq => hk q (lt_of_blk hq) (fun e => by
    rw [e, hb] at hq
    injection hq with hq; injection hq with _ hq _; exact ht hq.symm) (fun e => by
    obtain ⟨es, cl, h9⟩ := a1.obj
    rw [e, h9] at hq; cases hq)
  have ok : ∀ {e size : Nat} {v : Value} {n : Nat} {xs : List Value}, e ≠ 76 → OwnM M W e size v n xs → OwnM M W2 e size v n xs := fun n1 ho => ⟨own_keep ho.1 (fun q cs _ hq => hcl q cs _ n1 hq), ho.2⟩
  have hb2 : W2.heap[bb]? = _ := (hmt.grown.block bb (by rw [hs1]; exact lt_of_blk hb) (fun e => hbm (by simpa using e.symm))).trans hb1
  have hlook : ∀ i, Bas.look (s.live ++ [⟨s.last + 1, lits, red⟩]) i = if i = s.last + 1 then some ⟨s.last + 1, lits, red⟩ else Bas.look s.live i := fun i => by
    by_cases h1 : i = s.last + 1
    · rw [if_pos h1, h1, Bas.look_new, if_pos rfl]
      cases hq : Bas.look s.live (s.last + 1) with
      | none => rfl
      | some e =>
        obtain ⟨hm, h2⟩ := Bas.look_mem hq
        have := hg e hm
        omega
    · rw [if_neg h1]
      exact Bas.look_old _ h1
  refine ⟨W2, hr, ⟨hv, bm, br, k + 1, k2, upd f (s.last + 1) (some (.agg #[.int .i64 (s.last + 1), .slice a lits.length c, .bool red])), g, rv, sv, tv, R, Z, rw', ids, iv, hb2, m1, m2, m3, hne, ⟨hM2, Nat.succ_le_succ a2, fun id hid1 => ?_⟩, ⟨b1.same (hk br b1.lt hbr (fun e => hne e.symm)), Nat.le_succ_of_le b2, fun l v hlv => ?_, fun l hl2 => ?_, b5⟩, ⟨ok (by decide) c1, c2, fun q hq => ⟨(c3 q hq).1.keep hs hn, (c3 q hq).2.keep hs hn⟩⟩, ⟨ok (by decide) d1, d2, fun q hq => ⟨(d3 q hq).1.keep hs hn, (d3 q hq).2.keep hs hn⟩⟩, ok (by decide) e1⟩, hF⟩
  · show EntAt M W2 (Bas.look (s.live ++ [⟨s.last + 1, lits, red⟩]) id) _
    rw [hlook]
    by_cases h1 : id = s.last + 1
    · rw [if_pos h1]
      subst h1
      exact ⟨a, c, by simp [upd, entV], hl.keep hs hn, hc⟩
    · rw [if_neg h1]
      have e2 : upd f (s.last + 1) (some (.agg #[.int .i64 (s.last + 1), .slice a lits.length c, .bool red])) id = f id := by simp [upd, h1]
      rw [e2]
      exact (a3 id hid1).keep hs hn
  · obtain ⟨p1, p2, ⟨go, la, p3, p4⟩, p5, p6, p7, p8⟩ := b3 l v hlv
    refine ⟨p1, p2, ⟨go, la, (hcl _ _ _ (by decide) p3).trans p3, p4⟩, ok (by decide) p5, ?_, p7, fun i hi => ?_⟩
    · rw [Bas.occ_new]
      simp only [List.contains_nil, Bool.false_eq_true, if_false, List.append_nil]
      rw [← p6]
      apply List.filter_congr
      intro i hi
      rw [Bas.look_old _ (by have := p8 i hi; show i ≠ s.last + 1; omega)]
    · have := p8 i hi
      exact ⟨this.1, by show i ≤ s.last + 1; omega⟩
  · rw [Bas.occ_new]
    simp only [List.contains_nil, Bool.false_eq_true, if_false, List.append_nil]
    exact b4 l hl2
end Go.Proofs.YthpebfojkpnojaaGreat

