/- What lies in memory while the program reads a text. -/
import Derived.Test.YtdodfmgbjfhnpaaDoorRd29
import Derived.Test.YtdodfmgbjfhnpaaDoorLines
import Derived.Test.YtdodfmgbjfhnpaaDoorMem
import Derived.Test.YtdodfmgbjfhnpaaDoorSpec2
namespace Go.Proofs.YtdodfmgbjfhnpaaDoor
open Go.RowKit
set_option linter.unusedVariables false
set_option linter.unusedSimpArgs false

theorem boxed_apart {W : World} {B : Nat} {t : TypeId} {v : Value} {b k : Nat} {u : Value} (h : Boxed W B t v) (hne : B ≠ b) : Boxed (W.setCell ⟨b, k, none⟩ u) B t v := (heap_other W u hne).trans h
/-- Rows that lie apart from the reader's. -/
def Apart (qs : List Q) (lv hv : Value) : Prop := ∀ q ∈ qs, ∀ i, q.2.1.ownBlock = some i ∨ q.2.2.ownBlock = some i → lv.ownBlock ≠ some i ∧ hv.ownBlock ≠ some i

/-- The reader, the steps that were read, how many literals and hints they have, and the answers' cells. -/
structure Par (n : Nat) (w W : World) (qs : List Q) (v : Value) (rest : ByteArray) (more : Bool) (kd id : Int) (ls hs : List Int) (it : Int) (lv hv : Value) (tot : Nat) : Prop where
  mem : Mem (n + 3) W v qs
  bl : Boxed W (n + 4) 22 v
  rd : RdO (n + 8) (n + 5) W rest more kd id ls hs it lv hv
  bi : Boxed W (n + 6) 3 (.int .i64 (tot : Int))
  ap : Apart qs lv hv
  r0 : Boxed W n 22 (.slice none 0 0)
  r1 : Boxed W (n + 1) 26 (.int .i64 0)
  r2 : Boxed W (n + 2) 3 (.int .i64 0)
  bw : Below n w W
  sz : n + 8 ≤ W.heap.size

theorem RdO.same {base rb : Nat} {W W' : World} {rest : ByteArray} {more : Bool} {kd id : Int} {ls hs : List Int} {it : Int} {lv hv : Value} (h : RdO base rb W rest more kd id ls hs it lv hv) (hk : ∀ (i : Nat) (o : Obj), W.heap[i]? = some o → o.isCells = true → W'.heap[i]? = some o) : RdO base rb W' rest more kd id ls hs it lv hv :=
  ⟨⟨hk _ _ h.rd.blk rfl⟩, h.lt, own_keep h.lo (fun g cs _ hg => (hk g _ hg rfl).trans hg.symm), own_keep h.ho (fun g cs _ hg => (hk g _ hg rfl).trans hg.symm)⟩
theorem Mem.same {n : Nat} {W W' : World} {v : Value} {qs : List Q} (h : Mem n W v qs) (hk : ∀ (i : Nat) (o : Obj), W.heap[i]? = some o → o.isCells = true → W'.heap[i]? = some o) : Mem n W' v qs :=
  ⟨own_keep h.row (fun g cs _ hg => (hk g _ hg rfl).trans hg.symm), fun q hq => ⟨own_keep (h.each q hq).l (fun g cs _ hg => (hk g _ hg rfl).trans hg.symm), own_keep (h.each q hq).h (fun g cs _ hg => (hk g _ hg rfl).trans hg.symm)⟩⟩
section
variable {n : Nat} {w W : World} {qs : List Q} {v : Value} {rest : ByteArray} {more : Bool} {kd id : Int} {ls hs : List Int} {it : Int} {lv hv : Value} {tot : Nat}
theorem Par.book {W' : World} {B : Nat} (h : Par n w W qs v rest more kd id ls hs it lv hv tot) (hb : Book none B W W') (hB : n ≤ B) (hs0 : n ≤ w.heap.size) : Par n w W' qs v rest more kd id ls hs it lv hv tot := by
  have hk : ∀ (i : Nat) (o : Obj), W.heap[i]? = some o → o.isCells = true → W'.heap[i]? = some o := fun i o h1 h2 => hb.same i o h1 (by simp) (.inr h2)
  exact ⟨h.mem.same hk, hk _ _ h.bl rfl, h.rd.same hk, hk _ _ h.bi rfl, h.ap, hk _ _ h.r0 rfl, hk _ _ h.r1 rfl, hk _ _ h.r2 rfl, Book.below h.bw hB hb (by simp) hs0, Nat.le_trans h.sz hb.size⟩
/-- What reading a line keeps. -/
theorem Mv.keeps {rb base : Nat} {W W' : World} {lv' hv' : Value} (h : RdO base rb W rest more kd id ls hs it lv hv) (m : Mv rb W W' lv hv lv' hv') (B : Nat) : KeepsFrom B W W' := by
  refine ⟨m.size, fun k o _ hk ho => ?_⟩
  refine (m.block k (Array.getElem?_eq_some_iff.1 hk).1 ?_ ?_ ?_).trans hk
  · rintro rfl; rw [h.rd.blk] at hk; cases hk; cases ho
  · intro e; obtain ⟨_, cur, hc⟩ := own_blk h.lo e; rw [hc] at hk; cases hk; cases ho
  · intro e; obtain ⟨_, cur, hc⟩ := own_blk h.ho e; rw [hc] at hk; cases hk; cases ho
theorem Par.low {W' : World} {lv' hv' : Value} (h : Par n w W qs v rest more kd id ls hs it lv hv tot) (m : Mv (n + 5) W W' lv hv lv' hv') {i : Nat} (hi : i < n + 8) (hne : i ≠ n + 5) : W'.heap[i]? = W.heap[i]? := by
  refine m.block i (Nat.lt_of_lt_of_le hi h.sz) hne (fun e => ?_) (fun e => ?_)
  · have := (own_blk h.rd.lo e).1; omega
  · have := (own_blk h.rd.ho e).1; omega
theorem Par.under {W' : World} {lv' hv' : Value} (h : Par n w W qs v rest more kd id ls hs it lv hv tot) (m : Mv (n + 5) W W' lv hv lv' hv') : Below n w W' :=
  h.bw.trans ⟨m.os, m.tape, m.output, m.size, fun k hk => h.low m (by omega) (by omega)⟩
theorem Par.read {W' : World} {rest' : ByteArray} {more' : Bool} {kd' id' : Int} {ls' hs' : List Int} {it' : Int} {lv' hv' : Value} (h : Par n w W qs v rest more kd id ls hs it lv hv tot) (m : Mv (n + 5) W W' lv hv lv' hv') (hr : RdO (n + 8) (n + 5) W' rest' more' kd' id' ls' hs' it' lv' hv') : Par n w W' qs v rest' more' kd' id' ls' hs' it' lv' hv' tot := by
  refine ⟨?_, (h.low m (by omega) (by omega)).trans h.bl, hr, (h.low m (by omega) (by omega)).trans h.bi, ?_, (h.low m (by omega) (by omega)).trans h.r0, (h.low m (by omega) (by omega)).trans h.r1, (h.low m (by omega) (by omega)).trans h.r2, h.under m, Nat.le_trans h.sz m.size⟩
  · refine h.mem.keep (fun g hg => ?_) (fun q hq g hg => ?_)
    · obtain ⟨_, cur, hc⟩ := own_blk h.mem.row hg
      exact m.block g (Array.getElem?_eq_some_iff.1 hc).1 (fun e => by rw [e, h.rd.rd.blk] at hc; cases hc) (own_ne hc h.rd.lo (by decide)) (own_ne hc h.rd.ho (by decide))
    · obtain ⟨h1, h2⟩ := h.ap q hq g hg
      refine m.block g ((h.mem.each q hq).lt hg).2 (fun e => ?_) h1 h2
      subst e
      rcases hg with hg | hg
      · exact own_ne h.rd.rd.blk (h.mem.each q hq).l (by decide) hg
      · exact own_ne h.rd.rd.blk (h.mem.each q hq).h (by decide) hg
  · intro q hq i hi
    obtain ⟨h1, h2⟩ := h.ap q hq i hi
    have hlt := ((h.mem.each q hq).lt hi).2
    exact ⟨fun e => h1 (m.lown i hlt e), fun e => h2 (m.hown i hlt e)⟩
theorem Par.count (h : Par n w W qs v rest more kd id ls hs it lv hv tot) (tot' : Nat) : Par n w (W.setCell ⟨n + 6, 0, none⟩ (.int .i64 (tot' : Int))) qs v rest more kd id ls hs it lv hv tot' :=
  ⟨h.mem.set_other h.bi (by decide) (by decide) (by decide) _, boxed_apart h.bl (by omega), ⟨⟨(heap_other _ _ (by omega)).trans h.rd.rd.blk⟩, h.rd.lt, own_set h.rd.lo (by omega) _, own_set h.rd.ho (by omega) _⟩, h.bi.set _, h.ap, boxed_apart h.r0 (by omega), boxed_apart h.r1 (by omega), boxed_apart h.r2 (by omega), h.bw.setCell (by dsimp only; omega) _, by simpa [World.setCell] using h.sz⟩
theorem Par.below {W' : World} (h : Par n w W qs v rest more kd id ls hs it lv hv tot) (hb : Below W.heap.size W W') : Par n w W' qs v rest more kd id ls hs it lv hv tot := by
  have hk : ∀ (i : Nat) (o : Obj), W.heap[i]? = some o → o.isCells = true → W'.heap[i]? = some o := fun i o h1 _ => (hb.block i (Array.getElem?_eq_some_iff.1 h1).1).trans h1
  exact ⟨h.mem.same hk, hk _ _ h.bl rfl, h.rd.same hk, hk _ _ h.bi rfl, h.ap, hk _ _ h.r0 rfl, hk _ _ h.r1 rfl, hk _ _ h.r2 rfl, h.bw.trans (hb.mono (by have := h.sz; omega)), Nat.le_trans h.sz hb.size⟩
/-- A step more. -/
theorem Par.push (h : Par n w W qs v rest more kd id ls hs it lv hv tot) (q : Q) (hq : QV (n + 3) W q) (hqa : Apart [q] lv hv) (hl : qs.length ≤ 4194304) :
    ∃ o c B, (Builtin.append_ #[22, 22] 22 #[v, .slice (some ⟨W.heap.size, 0, none⟩) 1 1]).run Tryd.prog (W.alloc (.cells #[.int .u8 q.1.kind, .int .i64 q.1.id, q.2.1, q.2.2] 43)) = .ok (.slice o (qs.length + 1) c) B ∧
      Boxed B (n + 4) 22 v ∧ Par n w (B.setCell ⟨n + 4, 0, none⟩ (.slice o (qs.length + 1) c)) (qs ++ [q]) (.slice o (qs.length + 1) c) rest more kd id ls hs it lv hv tot ∧ ∀ C, KeepsFrom C W (B.setCell ⟨n + 4, 0, none⟩ (.slice o (qs.length + 1) c)) := by
  obtain ⟨o, c, B, hr, hm, keep, hsz, h1, h2, h3, hown⟩ := h.mem.push q hq hl (by have := h.sz; omega)
  have kl : ∀ (i : Nat) (cs : Array Value) (t : TypeId), W.heap[i]? = some (.cells cs t (0, 0)) → t ≠ 43 → B.heap[i]? = W.heap[i]? := fun i cs t hi ht => keep i (Array.getElem?_eq_some_iff.1 hi).1 (own_ne hi h.mem.row ht)
  have kb : ∀ {i : Nat} {t : TypeId} {x : Value}, Boxed W i t x → t ≠ 43 → Boxed B i t x := fun hb ht => (kl _ _ _ hb ht).trans hb
  have bl : Boxed B (n + 4) 22 v := kb h.bl (by decide)
  refine ⟨o, c, B, hr, bl, ⟨hm.set_other bl (by decide) (by decide) (by decide) _, bl.set _, ?_, boxed_apart (kb h.bi (by decide)) (by omega), ?_, boxed_apart (kb h.r0 (by decide)) (by omega), boxed_apart (kb h.r1 (by decide)) (by omega), boxed_apart (kb h.r2 (by decide)) (by omega), ?_, ?_⟩, fun C => ?_⟩
  · have hrb : B.heap[n + 5]? = W.heap[n + 5]? := kl _ _ _ h.rd.rd.blk (by decide)
    exact ⟨⟨(heap_other _ _ (by omega)).trans (hrb.trans h.rd.rd.blk)⟩, h.rd.lt, own_set (own_keep h.rd.lo (fun g cs _ hg => kl g cs _ hg (by decide))) (by omega) _, own_set (own_keep h.rd.ho (fun g cs _ hg => kl g cs _ hg (by decide))) (by omega) _⟩
  · intro p hp
    rcases List.mem_append.1 hp with hp | hp
    · exact h.ap p hp
    · exact hqa p hp
  · refine Below.setCell (p := ⟨n + 4, 0, none⟩) (h.bw.trans ⟨h1, h2, h3, hsz, fun k hk => keep k (by have := h.sz; omega) (fun e => ?_)⟩) (by dsimp only; omega) _
    have := (own_blk h.mem.row e).1
    omega
  · have := h.sz; simp [World.setCell]; omega
  · refine ⟨by simpa [World.setCell] using hsz, fun k x _ hk hx => ?_⟩
    have hne : k ≠ n + 4 := by
      rintro rfl
      rw [show W.heap[n + 4]? = _ from h.bl] at hk; cases hk; cases hx
    refine (heap_other _ _ hne).trans ((keep k (Array.getElem?_eq_some_iff.1 hk).1 (fun e => ?_)).trans hk)
    obtain ⟨_, cur, hc⟩ := own_blk h.mem.row e
    rw [hc] at hk; cases hk; cases hx
end
end Go.Proofs.YtdodfmgbjfhnpaaDoor
