/- A clause entered: its start, and one literal more. -/
import Derived.Test.YthpebfojkpnojaaEnt
namespace Bas
theorem look_new_some (L : List E) (e e' : E) (h : e.id = e'.id) (i : Int) : (look (L ++ [e]) i).isSome = (look (L ++ [e']) i).isSome := by
  rw [look_new, look_new, h]
  cases look L i with
  | some _ => rfl
  | none => split <;> rfl
theorem look_old {L : List E} (e : E) {i : Int} (h : i ≠ e.id) : look (L ++ [e]) i = look L i := by
  rw [look_new, if_neg (fun e1 => h e1.symm)]
  cases look L i <;> rfl
theorem look_top (L : List E) (e : E) : (look (L ++ [e]) e.id).isSome = true := by
  rw [look_new, if_pos rfl]
  cases look L e.id <;> rfl
theorem occ_mem {L : List E} {l i : Int} (h : i ∈ occ L l) : ∃ e ∈ L, e.id = i := by
  unfold occ at h
  obtain ⟨e, he, rfl⟩ := List.mem_map.1 h
  exact ⟨e, (List.mem_filter.1 he).1, rfl⟩
/-- The row's last id is the new one just where the literal came already. -/
theorem row_yes {L : List E} {ids : List Int} {id x : Int} {t : List Int} {red : Bool} (hf : ids.filter (fun i => (look (L ++ [⟨id, t, red⟩]) i).isSome) = occ (L ++ [⟨id, t, red⟩]) x) (hs : ids.Pairwise (· < ·)) (hb : ∀ i ∈ ids, i ≤ id) (ht : t.contains x = true) : 0 < ids.length ∧ ids.getD (ids.length - 1) 0 = id := by
  have hm : id ∈ ids := by
    have : id ∈ ids.filter (fun i => (look (L ++ [⟨id, t, red⟩]) i).isSome) := by
      rw [hf, occ_new]
      simp only [ht, if_true]
      exact List.mem_append_right _ (List.mem_singleton.2 rfl)
    exact (List.mem_filter.1 this).1
  obtain ⟨j, hj, e⟩ := List.mem_iff_getElem.1 hm
  have hl : 0 < ids.length := by omega
  refine ⟨hl, ?_⟩
  rw [List.getD, List.getElem?_eq_getElem (show ids.length - 1 < ids.length by omega)]
  show ids[ids.length - 1] = id
  by_cases h1 : j = ids.length - 1
  · subst h1; exact e
  · have h2 := List.pairwise_iff_getElem.1 hs j (ids.length - 1) hj (by omega) (by omega)
    have h3 := hb _ (List.getElem_mem (show ids.length - 1 < ids.length by omega))
    omega
theorem row_no {L : List E} {ids : List Int} {id x : Int} {t : List Int} {red : Bool} (hf : ids.filter (fun i => (look (L ++ [⟨id, t, red⟩]) i).isSome) = occ (L ++ [⟨id, t, red⟩]) x) (hL : ∀ e ∈ L, e.id < id) (ht : t.contains x = false) : id ∉ ids := fun hm => by
  have : id ∈ ids.filter (fun i => (look (L ++ [⟨id, t, red⟩]) i).isSome) := List.mem_filter.2 ⟨hm, look_top L ⟨id, t, red⟩⟩
  rw [hf, occ_new] at this
  simp only [ht, Bool.false_eq_true, if_false, List.append_nil] at this
  obtain ⟨e, he, h1⟩ := occ_mem this
  have := hL e he
  omega
theorem occ_same {L : List E} {id x : Int} {t : List Int} {red : Bool} (ht : t.contains x = true) (l : Int) : occ (L ++ [⟨id, t ++ [x], red⟩]) l = occ (L ++ [⟨id, t, red⟩]) l := by
  rw [occ_new, occ_new]
  congr 1
  by_cases h : l = x
  · subst h
    have h2 : (t ++ [l]).contains l = true := by simp
    simp only [h2, ht]
  · have h2 : (t ++ [x]).contains l = t.contains l := by
      rw [Bool.eq_iff_iff]
      simp [h]
    simp only [h2]
theorem occ_else {L : List E} {id x : Int} {t : List Int} {red : Bool} {l : Int} (h : l ≠ x) : occ (L ++ [⟨id, t ++ [x], red⟩]) l = occ (L ++ [⟨id, t, red⟩]) l := by
  rw [occ_new, occ_new]
  congr 1
  have h2 : (t ++ [x]).contains l = t.contains l := by
    rw [Bool.eq_iff_iff]
    simp [h]
  simp only [h2]
theorem occ_put {L : List E} {id x : Int} {t : List Int} {red : Bool} (ht : t.contains x = false) : occ (L ++ [⟨id, t ++ [x], red⟩]) x = occ (L ++ [⟨id, t, red⟩]) x ++ [id] := by
  rw [occ_new, occ_new]
  have h2 : (t ++ [x]).contains x = true := by simp
  simp only [h2, ht, if_true, Bool.false_eq_true, if_false, List.append_nil]
end Bas
namespace Go.Proofs.Ythpebfojkpnojaa
open Go.RowKit Go.Maps
set_option linter.unusedVariables false
set_option linter.unusedSimpArgs false
set_option maxRecDepth 100000
/-- The rows' list may be told otherwise. -/
theorem Bx.turn {M : Nat → Prop} {bb K : Nat} {s : Bas.S} {L2 L3 : List Bas.E} {W : World} (h : Bx M bb K s L2 W) (hs : ∀ i, (Bas.look L3 i).isSome = (Bas.look L2 i).isSome) (ho : ∀ l, Bas.occ L3 l = Bas.occ L2 l) : Bx M bb K s L3 W := by
  obtain ⟨hv, bm, br, k, k2, f, g, rv, sv, tv, R, Z, rw', ids, iv, hb, m1, m2, m3, hne, ha, ⟨b1, b2, b3, b4, b5⟩, hr⟩ := h
  refine ⟨hv, bm, br, k, k2, f, g, rv, sv, tv, R, Z, rw', ids, iv, hb, m1, m2, m3, hne, ha, ⟨b1, b2, fun l v hlv => ?_, fun l hl => by rw [ho]; exact b4 l hl, b5⟩, hr⟩
  obtain ⟨p1, p2, p3, p5, p6, p7⟩ := b3 l v hlv
  exact ⟨p1, p2, p3, p5, by rw [ho, ← p6]; congr 1; funext i; exact hs i, p7⟩
theorem Bx.last {M : Nat → Prop} {bb K : Nat} {s : Bas.S} {L2 : List Bas.E} {W : World} (h : Bx M bb K s L2 W) : W.cell? ⟨bb, 2, none⟩ = some (.int .i64 s.last) := by
  obtain ⟨hv, bm, br, k, k2, f, g, rv, sv, tv, R, Z, rw', ids, iv, hb, _⟩ := h
  exact row_cell hb 2
theorem Bx.rows {M : Nat → Prop} {bb K : Nat} {s : Bas.S} {L2 : List Bas.E} {W : World} (h : Bx M bb K s L2 W) (l : Int) (hl : I32 l) : ∃ br v ok, W.cell? ⟨bb, 4, none⟩ = some (.map (some br)) ∧ (Instr.lookup 76 (.map (some br)) (.int .i32 l) true).run Try.prog W = .ok (.tuple #[v, .bool ok]) W := by
  obtain ⟨br, k2, g, x4, mbr, hMr, _⟩ := h.rowed l
  exact ⟨br, _, _, x4, hMr.look hl⟩
/-- What a row that stands offers. -/
def InRow (M : Nat → Prop) (bb K : Nat) (s : Bas.S) (id : Int) (L3 : List Bas.E) (W : World) (rb : Nat) (o : Option Addr) (n c : Nat) : Prop :=
  (0 < n ∧ (∃ b off, o = some ⟨b, off, none⟩ ∧ W.cell? ⟨b, off + (n - 1), none⟩ = some (.int .i64 id)) ∧ Bx M bb K s L3 W) ∨
  ((n = 0 ∨ 0 < n ∧ ∃ b off y, o = some ⟨b, off, none⟩ ∧ W.cell? ⟨b, off + (n - 1), none⟩ = some (.int .i64 y) ∧ y ≠ id) ∧
    ∀ W1, Below W.heap.size W W1 → ∃ g c' B, (Builtin.append_ #[24, 24] 24 #[.slice o n c, .slice (some ⟨W1.heap.size, 0, none⟩) 1 1]).run Try.prog (W1.alloc (.cells #[.int .i64 id] 2)) = .ok (.slice (some ⟨g, 0, none⟩) (n + 1) c') B ∧ B.cell? ⟨rb, 0, none⟩ = some (.slice o n c) ∧ B.frozen? ⟨rb, 0, none⟩ = false ∧
      ∀ W4, B.setCell ⟨rb, 0, none⟩ (.slice (some ⟨g, 0, none⟩) (n + 1) c') = W4 → ∃ M', Bx M' bb K s L3 W4 ∧ Fm M W W4 ∧ Mn W M M')
set_option maxHeartbeats 1000000 in
theorem Bx.inRow {M : Nat → Prop} {bb K : Nat} {s : Bas.S} {L : List Bas.E} {id : Int} {t : List Int} {red : Bool} {W : World} (h : Bx M bb K s (L ++ [⟨id, t, red⟩]) W) (hsl : s.last = id) (h0 : 0 < id) (hid1 : id ≤ 100000000) (hL : ∀ e ∈ L, e.id < id) (x : Int) (hx : I32 x) (br : Nat) (v : Value) (hbr : W.cell? ⟨bb, 4, none⟩ = some (.map (some br))) (hlk : (Instr.lookup 76 (.map (some br)) (.int .i32 x) true).run Try.prog W = .ok (.tuple #[v, .bool true]) W) :
    ∃ rb o n c, v = .pointer (some ⟨rb, 0, none⟩) ∧ (W.cell? ⟨rb, 0, none⟩ = some (.slice o n c) ∧ W.frozen? ⟨rb, 0, none⟩ = false ∧ n ≤ 100000000 ∧ n ≤ c ∧ rb < W.heap.size) ∧ InRow M bb K s id (L ++ [⟨id, t ++ [x], red⟩]) W rb o n c := by
  have hh := h
  obtain ⟨br2, k2, g, x4, mbr, hMr, hcase⟩ := h.rowed x
  obtain rfl : br2 = br := by rw [hbr] at x4; simpa using x4.symm
  rw [hMr.look hx] at hlk
  rcases hcase with ⟨hg, _⟩ | ⟨rb, o, c, go, la, ids, hg, hmrb, hrb, hgl, hown, hownM, hocc, hsrt, hfin⟩
  · rw [hg] at hlk; simp at hlk
  · rw [hg] at hlk
    simp only [Option.getD_some, Option.isSome_some, Result.ok.injEq, Value.tuple.injEq, and_true] at hlk
    have hv : v = .pointer (some ⟨rb, 0, none⟩) := by simpa using hlk.symm
    have hlen : ids.length ≤ 100000000 := by
      have := sorted_len ids 0 s.last hsrt.1 hsrt.2 (by omega)
      omega
    have hb' : ∀ i ∈ ids, i ≤ id := fun i hi => by have := hsrt.2 i hi; omega
    have hcn : ids.length ≤ c := by
      rcases hown.2 with ⟨e1, h9⟩ | ⟨g', cap, cur, e1, _, _, h4, _⟩
      · omega
      · injection e1 with _ _ e1; omega
    have hrow : Hnts W o ids := own_row hown (fun i hi => by have := hsrt.2 i hi; omega)
    refine ⟨rb, o, ids.length, c, hv, ⟨row_cell hrb 0, row_frozen hrb 0, hlen, hcn, lt_of_blk hrb⟩, ?_⟩
    by_cases ht : t.contains x = true
    · obtain ⟨hp, hlast⟩ := Bas.row_yes hocc hsrt.1 hb' ht
      obtain ⟨b, off, e, _, hc, _⟩ := Row.at hrow (j := ids.length - 1) (by omega)
      rw [hlast] at hc
      exact .inl ⟨hp, ⟨b, off, e, hc⟩, hh.turn (fun i => Bas.look_new_some _ _ _ (by rfl) i) (fun l => Bas.occ_same ht l)⟩
    · have ht' : t.contains x = false := by simpa using ht
      have hno := Bas.row_no hocc hL ht'
      refine .inr ⟨?_, fun W1 hb1 => ?_⟩
      · by_cases hn : ids.length = 0
        · exact .inl hn
        · obtain ⟨b, off, e, _, hc, _⟩ := Row.at hrow (j := ids.length - 1) (by omega)
          refine .inr ⟨by omega, b, off, _, e, hc, fun e1 => hno ?_⟩
          rw [← e1]
          exact getD_mem ids _ (by omega)
      · obtain ⟨g', c', B, hr, ho', hgr, hgg⟩ := push2 (own_below hown hb1) id (Nat.zero_le _) (by omega)
        have hobl : (Value.slice o ids.length c).ownBlock ≠ some rb := fun hq => by
          obtain ⟨_, cur, h9⟩ := own_blk hown hq
          rw [hrb] at h9
          injection h9 with h9; injection h9 with _ h9 _; cases h9
        have hlt := lt_of_blk hrb
        have hal := below_box W1 (.cells #[.int .i64 id] 2)
        have hB : ∀ q, q < W.heap.size → (Value.slice o ids.length c).ownBlock ≠ some q → B.heap[q]? = W.heap[q]? := fun q hq hne => ((hgr.block q (by have := hb1.size; have := hal.size; omega) (fun e => hne e.symm)).trans (hal.block q (by have := hb1.size; omega))).trans (hb1.block q hq)
        have hBrb := (hB rb hlt hobl).trans hrb
        have hsB : W.heap.size ≤ B.heap.size := Nat.le_trans hb1.size (Nat.le_trans hal.size hgr.size)
        refine ⟨g', c', B, hr, row_cell hBrb 0, row_frozen hBrb 0, fun W4 hW4 => ?_⟩
        have h4 : W4.heap[rb]? = some (.cells #[.slice (some ⟨g', 0, none⟩) (ids.length + 1) c', .int .i64 go, .int .i64 la] 92 (0, 0)) := by rw [← hW4]; exact heap_set_row hBrb _
        have hk4 : ∀ q, q ≠ rb → W4.heap[q]? = B.heap[q]? := fun q hq => by rw [← hW4]; exact heap_other _ _ hq
        have hs4 : W4.heap.size = B.heap.size := by rw [← hW4]; simp [World.setCell]
        have hF4 : Fm M W W4 := ⟨by rw [← hW4]; exact hgr.os.trans (hal.os.trans hb1.os), by rw [← hW4]; exact hgr.tape.trans (hal.tape.trans hb1.tape), by rw [← hW4]; exact hgr.output.trans (hal.output.trans hb1.output), by omega, fun q hq hnm => (hk4 q (fun e => hnm (e ▸ hmrb))).trans (hB q hq (fun e => hnm (hownM q e)))⟩
        have ho4 : W4.ownsRow 0 2 1 (.slice (some ⟨g', 0, none⟩) (ids.length + 1) c') (ids ++ [id]).length ((ids ++ [id]).map (Value.int .i64)) := by
          have : (ids ++ [id]).length = ids.length + 1 := by simp
          rw [this]
          refine own_keep ho' (fun q cs hq h9 => hk4 q (fun e => ?_))
          rw [e, hBrb] at h9
          injection h9 with h9; injection h9 with _ h9 _; cases h9
        have hgn : ∀ q, (Value.slice (some ⟨g', 0, none⟩) (ids.length + 1) c').ownBlock = some q → (Value.slice o ids.length c).ownBlock = some q ∨ W.heap.size ≤ q := fun q hq => by
          have : g' = q := by simpa [Value.ownBlock] using hq
          subst this
          rcases hgg with h9 | h9
          · exact .inl h9
          · right; rw [h9]; have := hb1.size; omega
        obtain ⟨M', hB4, hN4, _⟩ := hfin W4 _ (ids ++ [id]) go la (L ++ [⟨id, t ++ [x], red⟩]) (fun i => Bas.look_new_some _ _ _ (by rfl) i) (fun l' hl' => Bas.occ_else hl') hgl.out.1 hgl.out.2 hF4 (fun q hq hne hne2 => (hk4 q hne).trans (hB q hq hne2)) h4 ho4 hgn (by
            rw [Bas.occ_put ht', ← hocc, List.filter_append]
            congr 1
            · congr 1
              funext i
              exact Bas.look_new_some _ _ _ (by rfl) i
            · rw [List.filter_cons, if_pos (Bas.look_top L ⟨id, t ++ [x], red⟩)]; rfl) ⟨by
            rw [List.pairwise_append]
            refine ⟨hsrt.1, List.pairwise_singleton _ _, fun a ha b hb => ?_⟩
            obtain rfl := List.mem_singleton.1 hb
            have h1 := hb' a ha
            have h2 : a ≠ b := fun e => hno (e ▸ ha)
            omega, fun i hi => by
            rcases List.mem_append.1 hi with hi | hi
            · exact hsrt.2 i hi
            · obtain rfl := List.mem_singleton.1 hi; omega⟩
        exact ⟨M', hB4, hF4, hN4⟩
end Go.Proofs.Ythpebfojkpnojaa
