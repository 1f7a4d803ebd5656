/- Steps written over. -/
import Derived.Test.YtmgeoeajnpnadaaMem
namespace Go.Proofs.Ytmgeoeajnpnadaa
open Go.RowKit
set_option linter.unusedVariables false
set_option linter.unusedSimpArgs false

/-- What turned between two blocks: cells of rows, of steps' rows their numbers alone. -/
structure Tn (n m : Nat) (W W' : World) : Prop where
  os : W'.os = W.os
  tape : W'.tape = W.tape
  output : W'.output = W.output
  size : W'.heap.size = W.heap.size
  out : ∀ k : Nat, k < n ∨ m ≤ k → W'.heap[k]? = W.heap[k]?
  row : ∀ (k : Nat) (cs : Array Value) (t : TypeId), W.heap[k]? = some (.cells cs t (0, 0)) → ∃ cs' : Array Value, W'.heap[k]? = some (.cells cs' t (0, 0)) ∧ cs'.size = cs.size ∧ (t = 43 → ∀ j : Nat, j % 4 ≠ 1 → cs'[j]? = cs[j]?)
theorem Tn.refl (n m : Nat) (W : World) : Tn n m W W := ⟨rfl, rfl, rfl, rfl, fun _ _ => rfl, fun k cs t h => ⟨cs, h, rfl, fun _ _ _ => rfl⟩⟩
theorem Tn.trans {n m : Nat} {A B C : World} (h : Tn n m A B) (g : Tn n m B C) : Tn n m A C :=
  ⟨g.os.trans h.os, g.tape.trans h.tape, g.output.trans h.output, g.size.trans h.size, fun k hk => (g.out k hk).trans (h.out k hk), fun k cs t hc => by
    obtain ⟨c1, h1, h2, h3⟩ := h.row k cs t hc
    obtain ⟨c2, g1, g2, g3⟩ := g.row k c1 t h1
    exact ⟨c2, g1, g2.trans h2, fun ht j hj => (g3 ht j hj).trans (h3 ht j hj)⟩⟩
theorem Tn.one {n m b j : Nat} {A : World} {cs : Array Value} {t : TypeId} (hA : A.heap[b]? = some (.cells cs t (0, 0))) (hn : n ≤ b) (hm : b < m) (h43 : t = 43 → j % 4 = 1) (u : Value) : Tn n m A (A.setCell ⟨b, j, none⟩ u) := by
  refine ⟨rfl, rfl, rfl, by simp [World.setCell], fun k hk => heap_other _ _ (by omega), fun k c0 t0 h => ?_⟩
  by_cases e : k = b
  · subst e
    rw [hA] at h
    cases h
    refine ⟨_, heap_set_row hA u, by simp, fun ht i hi => ?_⟩
    have := h43 ht
    rw [Array.getElem?_setIfInBounds_ne (by intro e; subst e; exact hi this)]
  · exact ⟨c0, (heap_other _ _ e).trans h, rfl, fun _ _ _ => rfl⟩
theorem Tn.drew {n m : Nat} {A B C : World} (h : Tn n m A B) (hs : C.os = B.os) (ht : C.tape = B.tape) (ho : C.output = B.output) (hh : C.heap = B.heap) : Tn n m A C :=
  ⟨hs.trans h.os, ht.trans h.tape, ho.trans h.output, by rw [hh]; exact h.size, fun k hk => by rw [hh]; exact h.out k hk, fun k cs t hc => by rw [hh]; exact h.row k cs t hc⟩
/-- A row that may be written. -/
def Rw (n m : Nat) (t : TypeId) (W : World) (o : Option Addr) (k : Nat) : Prop := k = 0 ∨ ∃ (g off : Nat) (cs : Array Value), o = some ⟨g, off, none⟩ ∧ off = 0 ∧ n ≤ g ∧ g < m ∧ W.heap[g]? = some (.cells cs t (0, 0)) ∧ k ≤ cs.size
theorem Rw.turn {n m : Nat} {t : TypeId} {W W' : World} {o : Option Addr} {k : Nat} (h : Rw n m t W o k) (hT : Tn n m W W') : Rw n m t W' o k := by
  rcases h with h | ⟨g, off, cs, h1, h0, h2, h3, h4, h5⟩
  · exact .inl h
  · obtain ⟨c', g1, g2, _⟩ := hT.row _ _ _ h4
    exact .inr ⟨g, off, c', h1, h0, h2, h3, g1, by omega⟩
/-- A step that may be written over. -/
structure Sp (n m : Nat) (W : World) (g off i : Nat) (o1 : Option Addr) (n1 c1 : Nat) (o2 : Option Addr) (n2 c2 : Nat) : Prop where
  gb : n ≤ g ∧ g < m ∧ off = 0
  hd : ∃ cs : Array Value, W.heap[g]? = some (.cells cs 43 (0, 0)) ∧ cs[off + i * 4 + 2]? = some (.slice o1 n1 c1) ∧ cs[off + i * 4 + 3]? = some (.slice o2 n2 c2)
  l : Rw n m 44 W o1 n1
  h : Rw n m 2 W o2 n2
theorem Sp.turn {n m : Nat} {W W' : World} {g off i : Nat} {o1 : Option Addr} {n1 c1 : Nat} {o2 : Option Addr} {n2 c2 : Nat} (h : Sp n m W g off i o1 n1 c1 o2 n2 c2) (hT : Tn n m W W') : Sp n m W' g off i o1 n1 c1 o2 n2 c2 := by
  obtain ⟨cs, h1, h2, h3⟩ := h.hd
  obtain ⟨c', g1, g2, g3⟩ := hT.row _ _ _ h1
  have := h.gb
  exact ⟨h.gb, ⟨c', g1, (g3 rfl _ (by omega)).trans h2, (g3 rfl _ (by omega)).trans h3⟩, h.l.turn hT, h.h.turn hT⟩
theorem Sp.cells {n m : Nat} {W : World} {g off i : Nat} {o1 : Option Addr} {n1 c1 : Nat} {o2 : Option Addr} {n2 c2 : Nat} (h : Sp n m W g off i o1 n1 c1 o2 n2 c2) :
    W.cell? ⟨g, off + i * 4 + 2, none⟩ = some (.slice o1 n1 c1) ∧ W.cell? ⟨g, off + i * 4 + 3, none⟩ = some (.slice o2 n2 c2) ∧ (∃ x, W.cell? ⟨g, off + i * 4 + 1, none⟩ = some x) ∧ W.frozen? ⟨g, off + i * 4 + 1, none⟩ = false := by
  obtain ⟨cs, h1, h2, h3⟩ := h.hd
  have hl := (Array.getElem?_eq_some_iff.1 h2).1
  exact ⟨(row_cell h1 _).trans h2, (row_cell h1 _).trans h3, ⟨_, (row_cell h1 _).trans (Array.getElem?_eq_getElem (by omega))⟩, row_frozen h1 _⟩
theorem Rw.cell {n m : Nat} {t : TypeId} {W : World} {g off k j : Nat} (h : Rw n m t W (some ⟨g, off, none⟩) k) (hj : j < k) (ht : t ≠ 43) :
    (∃ x, W.cell? ⟨g, off + j, none⟩ = some x) ∧ W.frozen? ⟨g, off + j, none⟩ = false ∧ ∀ u, Tn n m W (W.setCell ⟨g, off + j, none⟩ u) := by
  rcases h with h | ⟨g', off', cs, h1, h0, h2, h3, h4, h5⟩
  · omega
  · cases h1
    exact ⟨⟨_, (row_cell h4 _).trans (Array.getElem?_eq_getElem (by omega))⟩, row_frozen h4 _, fun u => Tn.one h4 h2 h3 (fun e => absurd e ht) u⟩
theorem Rw.shape {n m : Nat} {t : TypeId} {W : World} {o : Option Addr} {k : Nat} (h : Rw n m t W o k) (hk : 0 < k) : ∃ g off, o = some ⟨g, off, none⟩ := by
  rcases h with h | ⟨g, off, cs, h1, _⟩
  · omega
  · exact ⟨g, off, h1⟩
theorem Sp.num {n m : Nat} {W : World} {g off i : Nat} {o1 : Option Addr} {n1 c1 : Nat} {o2 : Option Addr} {n2 c2 : Nat} (h : Sp n m W g off i o1 n1 c1 o2 n2 c2) (u : Value) : Tn n m W (W.setCell ⟨g, off + i * 4 + 1, none⟩ u) := by
  obtain ⟨cs, h1, h2, h3⟩ := h.hd
  have := h.gb
  exact Tn.one h1 h.gb.1 h.gb.2.1 (fun _ => by omega) u
theorem rw_own {n k : Nat} {t : TypeId} {W : World} {v : Value} {xs : List Value} (h : W.ownsRow n t 1 v k xs) : ∃ o c, v = .slice o k c ∧ Rw n W.heap.size t W o k := by
  rcases h.2 with ⟨rfl, h0⟩ | ⟨g, cap, cur, rfl, hb, hg, hnc, hcm, hcs, htk⟩
  · exact ⟨none, 0, by rw [h0], .inl h0⟩
  · exact ⟨_, _, rfl, .inr ⟨g, 0, cur, rfl, rfl, hb, (Array.getElem?_eq_some_iff.1 hg).1, hg, by omega⟩⟩
theorem Rw.below {n : Nat} {t : TypeId} {A W : World} {o : Option Addr} {k : Nat} (h : Rw n A.heap.size t A o k) (hb : Below A.heap.size A W) : Rw n A.heap.size t W o k := by
  rcases h with h | ⟨g, off, cs, h1, h0, h2, h3, h4, h5⟩
  · exact .inl h
  · exact .inr ⟨g, off, cs, h1, h0, h2, h3, (hb.block g h3).trans h4, h5⟩
theorem Mem.spots {n : Nat} {A W : World} {v : Value} {qs : List Q} (h : Mem n A v qs) (hb : Below A.heap.size A W) (hl : ∀ q ∈ qs, q.1.lits.length ≤ 1000000 ∧ q.1.hints.length ≤ 1000000) :
    ∃ o c, v = .slice o qs.length c ∧ (Hid (qs.length = 0) ∨ ∃ g off, o = some ⟨g, off, none⟩ ∧ ∀ i, i < qs.length → ∃ o1 n1 c1 o2 n2 c2, Sp n A.heap.size W g off i o1 n1 c1 o2 n2 c2 ∧ n1 ≤ 1000000 ∧ n2 ≤ 1000000) := by
  rcases h.row.2 with ⟨rfl, h0⟩ | ⟨g, cap, cur, rfl, hg1, hg, hnc, hcm, hcs, htk⟩
  · exact ⟨none, 0, by rw [h0], .inl (hid h0)⟩
  · refine ⟨_, _, rfl, .inr ⟨g, 0, rfl, fun i hi => ?_⟩⟩
    have hgl := (Array.getElem?_eq_some_iff.1 hg).1
    have hm := List.getElem_mem hi
    obtain ⟨o1, c1, e1, r1⟩ := rw_own (h.each _ hm).l
    obtain ⟨o2, c2, e2, r2⟩ := rw_own (h.each _ hm).h
    have cell : ∀ r, r < 4 → cur[0 + i * 4 + r]? = (qvals qs[i])[r]? := fun r hr => by
      have e2 : (cur.toList.take (qs.length * 4))[i * 4 + r]? = cur.toList[i * 4 + r]? := List.getElem?_take_of_lt (by omega)
      rw [htk] at e2
      rw [Nat.zero_add, ← Array.getElem?_toList, ← e2, flat_at qs i r hi hr]
    refine ⟨o1, _, c1, o2, _, c2, ⟨⟨hg1, hgl, rfl⟩, ⟨cur, (hb.block g hgl).trans hg, ?_, ?_⟩, r1.below hb, r2.below hb⟩, hl _ hm⟩
    · rw [cell 2 (by decide), ← e1]; rfl
    · rw [cell 3 (by decide), ← e2]; rfl
/-- What is left of what lay elsewhere. -/
theorem Tn.below {n m : Nat} {w W W' : World} (h : Tn n m W W') (hb : Below n w W) : Below n w W' := ⟨h.os.trans hb.os, h.tape.trans hb.tape, h.output.trans hb.output, by rw [h.size]; exact hb.size, fun k hk => (h.out k (.inl hk)).trans (hb.block k hk)⟩
theorem Tn.mem {n m : Nat} {W W' : World} {v : Value} {qs : List Q} (h : Tn n m W W') (hM : Mem m W v qs) : Mem m W' v qs :=
  hM.keep (fun g hg => h.out g (.inr (own_blk hM.row hg).1)) (fun q hq g hg => h.out g (.inr ((hM.each q hq).lt hg).1))

set_option maxRecDepth 100000 in
set_option maxHeartbeats 8000000 in
theorem spoil16 (n : Nat) (A W : World) (v : Value) (qs : List Q) (hM : Mem n A v qs) (hb : Below A.heap.size A W) (hq : qs.length ≤ 1000000) (hl : ∀ q ∈ qs, q.1.lits.length ≤ 1000000 ∧ q.1.hints.length ≤ 1000000) :
    Calls Try.prog 16 #[v] W fun e W' => e = .returned (.tuple #[]) ∧ Tn n A.heap.size W W' := by
  obtain ⟨o, c, rfl, sh⟩ := hM.spots hb hl
  clear hM hb hl
  generalize qs.length = N at *
  generalize A.heap.size = m at *
  rcases sh with Z | ⟨g, off, rfl, HS⟩
  · have hz : ¬ (0 : Int) < N := by have := Z.out; omega
    go_enter Try.func16, Try.ntmps16
    go_wp2
    go_loopw [2, 3, 4] (fun iv _ _ wr => iv = .int .i64 0 ∧ Hid (Tn n m W wr)) (fun _ _ _ _ => 0)
    case atStart => exact ⟨rfl, hid (Tn.refl _ _ _)⟩
    case round =>
      obtain ⟨rfl, HT⟩ := hrel
      go_wp2
      refine bodyPost_end (results_none rfl _ _ _) rfl ?_
      exact ⟨rfl, HT.out⟩
  · have HSP := hid HS
    clear HS
    go_enter Try.func16, Try.ntmps16
    go_wp2
    go_loopw [2, 3, 4] (fun iv _ _ wr => ∃ i : Nat, iv = .int .i64 i ∧ i ≤ N ∧ Hid (Tn n m W wr)) (fun iv _ _ _ => N - (intOf iv).toNat)
    case atStart => exact ⟨0, rfl, by omega, hid (Tn.refl _ _ _)⟩
    case round =>
      obtain ⟨i, rfl, hi, HT⟩ := hrel
      by_cases hlt : i < N
      · have hlt' : (i : Int) < N := by omega
        obtain ⟨o1, n1, c1, o2, n2, c2, hsp, hn1, hn2⟩ := HSP.out i hlt
        have SP := hid hsp
        clear hsp
        go_wp2
        go_loopw [3] (fun jv wr => ∃ j : Nat, jv = .int .i64 j ∧ j ≤ n1 ∧ Hid (Tn n m W wr)) (fun jv _ => n1 - (intOf jv).toNat)
        case atStart => exact ⟨0, rfl, by omega, HT⟩
        case round =>
          clear HT
          obtain ⟨j, rfl, hj, HT⟩ := hrel
          have sp := SP.out.turn HT.out
          obtain ⟨x2, x3, _, _⟩ := sp.cells
          by_cases hjn : j < n1
          · have hjn' : (j : Int) < n1 := by omega
            obtain ⟨g1, off1, rfl⟩ := sp.l.shape (by omega)
            obtain ⟨⟨y, hy⟩, hz, hT⟩ := sp.l.cell hjn (by decide)
            have HT2 := hid hT
            clear sp hT
            go_wp2
            go_roundw
            case rel => exact ⟨j + 1, by go_num, by omega, hid (HT.out.trans (HT2.out _))⟩
            case measure => simp [intOf]; omega
          · have hjn' : ¬ (j : Int) < n1 := by omega
            clear sp
            go_wp2
            go_loopw [4] (fun jv wr => ∃ j : Nat, jv = .int .i64 j ∧ j ≤ n2 ∧ Hid (Tn n m W wr)) (fun jv _ => n2 - (intOf jv).toNat)
            case atStart => exact ⟨0, rfl, by omega, HT⟩
            case round =>
              clear HT x2 x3
              obtain ⟨q, rfl, hq2, HT⟩ := hrel
              have sp := SP.out.turn HT.out
              obtain ⟨x2, x3, ⟨y, hy⟩, hz⟩ := sp.cells
              by_cases hqn : q < n2
              · have hqn' : (q : Int) < n2 := by omega
                clear hy hz
                obtain ⟨g1, off1, rfl⟩ := sp.h.shape (by omega)
                obtain ⟨⟨y, hy⟩, hz, hT⟩ := sp.h.cell hqn (by decide)
                have HT2 := hid hT
                clear sp hT
                go_wp2
                go_roundw
                case rel => exact ⟨q + 1, by go_num, by omega, hid (HT.out.trans (HT2.out _))⟩
                case measure => simp [intOf]; omega
              · have hqn' : ¬ (q : Int) < n2 := by omega
                have HT2 := hid sp.num
                clear sp
                go_wp2
                go_roundw
                case rel => exact ⟨i + 1, by go_num, by omega, hid (HT.out.trans (HT2.out _))⟩
                case measure => simp [intOf]; omega
      · have hlt' : ¬ (i : Int) < N := by omega
        go_wp2
        refine bodyPost_end (results_none rfl _ _ _) rfl ?_
        exact ⟨rfl, HT.out⟩
end Go.Proofs.Ytmgeoeajnpnadaa
