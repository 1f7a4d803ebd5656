/- New; a row of words that grows. -/
import Derived.Test.YtblogmelmpkfhaaRfs
import Derived.Deep.RegionLaw
namespace Arn
def limOf (limit : Int) : Nat := (min (max limit 0) 268435456).toNat
def newIt (id : Int) (c : List Int) (red : Bool) (lbd : Int) : It := ⟨4 + c.length, id, c, red, lbd, 0, false⟩
def putE (M : List It) (lim : Nat) (id : Int) (c : List Int) (lbd : Int) : Int :=
  if id < 1 ∨ 4611686018427387903 < id ∨ small lbd = false then 2 else if (0 : Int) ∈ c then 4 else if lim < size M + 4 + c.length then 90 else 0
def put (M : List It) (lim : Nat) (id : Int) (c : List Int) (red : Bool) (lbd : Int) : List It :=
  if putE M lim id c lbd = 0 then M ++ [newIt id c red lbd] else M
def putR (M : List It) (lim : Nat) (id : Int) (c : List Int) (lbd : Int) : Int := if putE M lim id c lbd = 0 then size M else 0
end Arn
namespace Go.Proofs.Ytblogmelmpkfhaa
open Go.RowKit Go.Maps
set_option linter.unusedVariables false

theorem info84 : (Try.prog.info? 84).map (fun i => (i.zero, i.size, i.bytes)) = some (some (.int .u32 0), 1, 4) := by kernel_rfl
/-- A new arena. -/
def NewOut (n lim : Nat) (e : Ending) (w' : World) : Prop := ∃ ab, e = .returned (.pointer (some ⟨ab, 0, none⟩)) ∧ Arx n ab lim [] w'
theorem new_out (W : World) (limit : Int) (lim : Nat) (hl : lim ≤ 268435456) :
    NewOut W.heap.size lim (.returned (.pointer (some ⟨W.heap.size + 1, 0, none⟩))) ((W.alloc (.map #[] 0)).alloc (.cells #[.int .i64 lim, .slice none 0 0, .map (some W.heap.size), .int .i64 0] 69)) := by
  refine ⟨_, rfl, .slice none 0 0, W.heap.size, by omega, Nat.le_refl _, ?_, World.ownsRow_nil _ _ _ _, ?_, (fun x h => by cases h), Nat.zero_le _, hl⟩
  · have := heap_alloc_new (W.alloc (.map #[] 0)) (.cells #[.int .i64 lim, .slice none 0 0, .map (some W.heap.size), .int .i64 0] 69)
    rw [show ((Arn.waste [] : Nat) : Int) = 0 from rfl]
    simpa using this
  · exact (Mp.new W).kept (World.grownBy_alloc _ _ none) (by simp)

set_option maxRecDepth 100000 in
set_option maxHeartbeats 1000000 in
theorem new8 (limit : Int) (W : World) : Calls Try.prog 8 #[.int .i64 limit] W fun e w' => NewOut W.heap.size (Arn.limOf limit) e w' ∧ Below W.heap.size W w' := by
  have hmm := @run_makeMap Try.prog
  have hb : ∀ u, Below W.heap.size W ((W.alloc (.map #[] 0)).alloc (.cells u 69)) := fun u => ((Below.refl _ W).alloc (Nat.le_refl _) _).alloc (by simp) _
  have HB := hid hb
  have HO := hid (new_out W limit (Arn.limOf limit) (by unfold Arn.limOf; omega))
  rw [show ((Arn.limOf limit : Nat) : Int) = min (max limit 0) 268435456 by unfold Arn.limOf; omega] at HO
  clear hb
  generalize Arn.limOf limit = lm at *
  go_enter Try.func8, Try.ntmps8
  go_wp2
  go_ret
  exact ⟨HO.out, HB.out _⟩

/-- The arena while words are put. -/
structure Pt (n ab lim bm wst : Nat) (W0 : World) (v : Value) (k : Nat) (ws : List Int) (W : World) : Prop where
  nab : n ≤ ab
  len : ws.length = k
  blk : W.heap[ab]? = some (.cells #[.int .i64 lim, v, .map (some bm), .int .i64 wst] 69 (0, 0))
  own : W.ownsRow n 84 1 v k (ws.map (Value.int .u32))
  map : W.heap[bm]? = W0.heap[bm]?
  isMap : ∃ es cl, W0.heap[bm]? = some (.map es cl)
  fr : Fr pA n W0 W
theorem news84 {X : World} {us : List Int} : ∀ j v, (us.map (Value.int .u32))[j]? = some v → (X.alloc (.cells (us.map (Value.int .u32)).toArray 84)).cell? ((⟨X.heap.size, 0, none⟩ : Addr).add j) = some v :=
  World.news_of_block (heap_alloc_new X (.cells (us.map (Value.int .u32)).toArray 84))
theorem Pt.ne {n ab lim bm wst k : Nat} {W0 : World} {v : Value} {ws : List Int} {W : World} (h : Pt n ab lim bm wst W0 v k ws W) : bm ≠ ab ∧ v.ownBlock ≠ some ab ∧ v.ownBlock ≠ some bm := by
  obtain ⟨es, cl, hm⟩ := h.isMap
  refine ⟨?_, ?_, ?_⟩
  · rintro rfl
    have := h.map
    rw [h.blk, hm] at this
    injection this with e; cases e
  · exact fun e => own_type h.own h.blk (by decide) e.symm
  · intro e
    obtain ⟨_, cur, hq⟩ := own_blk h.own e
    rw [h.map, hm] at hq
    injection hq with e; cases e
theorem Pt.drew {n ab lim bm wst k : Nat} {W0 : World} {v : Value} {ws : List Int} {W : World} (h : Pt n ab lim bm wst W0 v k ws W) : Pt n ab lim bm wst W0 v k ws W.drew :=
  ⟨h.nab, h.len, h.blk, h.own, h.map, h.isMap, h.fr.trans (Fr.of_below (Below.refl _ _).drew)⟩
/-- Words more. -/
theorem Pt.push {n ab lim bm wst k : Nat} {W0 : World} {v : Value} {ws : List Int} {W : World} (h : Pt n ab lim bm wst W0 v k ws W) (us : List Int) (m : Nat) (hu : us.length = m) (hm : 0 < m) (hk : k + m ≤ 268435456) :
    ∃ g cap B, (Builtin.append_ #[67, 67] 67 #[v, .slice (some ⟨W.heap.size, 0, none⟩) m m]).run Try.prog (W.alloc (.cells (us.map (Value.int .u32)).toArray 84)) = .ok (.slice (some ⟨g, 0, none⟩) (k + m) cap) B ∧
      B.cell? ⟨ab, 1, none⟩ = some v ∧ B.frozen? ⟨ab, 1, none⟩ = false ∧ Pt n ab lim bm wst W0 (.slice (some ⟨g, 0, none⟩) (k + m) cap) (k + m) (ws ++ us) (B.setCell ⟨ab, 1, none⟩ (.slice (some ⟨g, 0, none⟩) (k + m) cap)) := by
  obtain ⟨i0, hi, hz⟩ := Option.map_eq_some_iff.1 info84
  simp only [Prod.mk.injEq] at hz
  obtain ⟨n1, n2, n3⟩ := h.ne
  have hbs : bm < W.heap.size := by
    obtain ⟨es, cl, hm⟩ := h.isMap
    exact lt_of_blk (h.map.trans hm)
  have hal := below_box W (.cells (us.map (Value.int .u32)).toArray 84)
  have hsz : (W.alloc (.cells (us.map (Value.int .u32)).toArray 84)).heap.size = W.heap.size + 1 := by simp
  obtain ⟨g, cap, B, hr, hown, hgr, hat, hlt⟩ := run_append_lies (P := Try.prog) (W.alloc (.cells (us.map (Value.int .u32)).toArray 84)) 67 67 n 84 i0 (.int .u32 0) 1 4 Try.underlying67 hi hz.1 hz.2.1 hz.2.2 rfl (by decide) v k _ (own_below h.own hal)
    ⟨W.heap.size, 0, none⟩ m m (us.map (Value.int .u32)) (by simp [hu]) news84 (by intro u hu; obtain ⟨x, _, rfl⟩ := List.mem_map.1 hu; rfl) hm (by unfold maxLen; omega) (by omega) (by have := h.nab; have := lt_of_blk h.blk; rw [hsz]; omega) _ hsz
  have hblk : B.heap[ab]? = some (.cells #[.int .i64 lim, v, .map (some bm), .int .i64 wst] 69 (0, 0)) :=
    (hgr.block ab (by rw [hsz]; have := lt_of_blk h.blk; omega) (fun e => n2 e.symm)).trans ((hal.block ab (lt_of_blk h.blk)).trans h.blk)
  have hgab : g ≠ ab := by
    rintro rfl
    obtain ⟨_, cur, hq⟩ := own_blk hown rfl
    rw [hblk] at hq
    injection hq with e; injection e with _ e; cases e
  refine ⟨g, cap, B, hr, row_cell hblk 1, row_frozen hblk 1, h.nab, by simp [h.len, hu], ?_, ?_, ?_, h.isMap, ?_⟩
  · rw [heap_set_row hblk]; rfl
  · rw [List.map_append]
    exact hown.kept ⟨rfl, rfl, rfl, by simp [World.setCell], fun q _ hq => heap_other B _ (fun e => hq (by rw [e]))⟩ (row := some ab) (.inr (by simp [Value.ownBlock]; exact hgab))
  · exact (heap_other B _ n1).trans ((hgr.block bm (by rw [hsz]; omega) (fun e => n3 e.symm)).trans ((hal.block bm hbs).trans h.map))
  · refine h.fr.trans ((Fr.of_below hal).trans ((Fr.grown hgr (fun q hq => ?_)).trans (Fr.set B _ h.nab (fun o ho => ?_))))
    · obtain ⟨hb1, cur, hq2⟩ := own_blk h.own hq
      refine ⟨hb1, fun o ho => ?_⟩
      rw [hal.block q (lt_of_blk hq2), hq2] at ho
      cases ho
      exact .inr rfl
    · rw [hblk] at ho; cases ho; exact .inl rfl
/-- The clause is in: its place is told. -/
theorem Pt.done {n ab lim bm k : Nat} {W0 : World} {v0 v : Value} {ws : List Int} {W : World} {M : List Arn.It} {x : Arn.It} (h0 : Ar n ab lim v0 bm M W0) (h : Pt n ab lim bm (Arn.waste M) W0 v k ws W) (hx : x.ok) (hws : ws = Arn.row (M ++ [x])) (hf : Arn.size M + x.room ≤ lim) (hl : x.lost = 0) :
    ∃ W', (Instr.mapUpdate 66 (.map (some bm)) (.int .i64 (Arn.size M : Nat)) (.agg #[])).run Try.prog W = .ok () W' ∧ Ar n ab lim v bm (M ++ [x]) W' ∧ Fr pA n W0 W' := by
  obtain ⟨n1, n2, n3⟩ := h.ne
  have hMl := Arn.len_size h0.ok
  have hfit := h0.fit
  have hlim := h0.lim
  have hmp : Mp W bm M.length (fun r => (Arn.at? M r).map (fun _ => .agg #[])) := by
    obtain ⟨D, ⟨es, cl, hh, q⟩, h5⟩ := h0.map
    exact ⟨D, ⟨es, cl, h.map.trans hh, q⟩, h5⟩
  obtain ⟨W', hr, hmp', hturn⟩ := hmp.put (id := (Arn.size M : Nat)) ⟨by omega, by omega⟩ (by unfold maxLen; omega) (.agg #[])
  have hg := hturn.grown
  have hok : Arn.Oks (M ++ [x]) := fun y hy => by
    rcases List.mem_append.1 hy with hy | hy
    · exact h0.ok y hy
    · rw [List.mem_singleton.1 hy]; exact hx
  have hsize : Arn.size (M ++ [x]) = Arn.size M + x.room := by rw [Arn.size_append]; simp [Arn.size]
  have hk : k = Arn.size (M ++ [x]) := by rw [← h.len, hws, Arn.row_len hok]
  refine ⟨W', hr, ⟨h.nab, h0.nbm, ?_, ?_, ?_, hok, by rw [hsize]; exact hf, hlim⟩, h.fr.trans (Fr.grown hg (fun q hq => ?_))⟩
  · rw [Arn.waste_append, show Arn.waste [x] = 0 by simp [Arn.waste, hl], Nat.add_zero]
    exact (hg.block ab (lt_of_blk h.blk) (fun e => n1 (by cases e; rfl))).trans h.blk
  · rw [← hk, ← hws]
    exact h.own.kept hg (.inr n3)
  · rw [List.length_append]
    obtain ⟨D, h1, h2⟩ := hmp'
    refine ⟨D, h1, fun id hi => ?_⟩
    have := h2 id hi
    rw [show upd (fun r => (Arn.at? M r).map (fun _ => Value.agg #[])) (Arn.size M : Nat) (some (Value.agg #[])) id = (Arn.at? (M ++ [x]) id).map (fun _ => Value.agg #[]) by
      unfold upd
      rw [Arn.at_append h0.ok]
      by_cases e : id = (Arn.size M : Nat)
      · rw [if_pos e, if_neg (by omega), e, Int.sub_self]
        rfl
      · rw [if_neg e]
        by_cases h3 : id < (Arn.size M : Nat)
        · rw [if_pos h3]
        · rw [if_neg h3]
          have hn1 : Arn.at? M id = none := by
            cases hq : Arn.at? M id with
            | none => rfl
            | some y => have := Arn.at_lt h0.ok hq; have := this.2.2.fits; omega
          show (Arn.at? M id).map _ = _
          rw [hn1, Arn.at_cons, if_neg (by omega)]
          rfl] at this
    exact this
  · cases hq
    refine ⟨h0.nbm, fun o ho => ?_⟩
    obtain ⟨es, cl, hm⟩ := h.isMap
    rw [h.map, hm] at ho
    cases ho
    trivial
end Go.Proofs.Ytblogmelmpkfhaa
