/- Steps in memory of their own, by the document. -/
import Derived.Test.YtmgeoeajnpnadaaMem
import Derived.Test.YtmgeoeajnpnadaaSameL
namespace Go.Proofs.Ytmgeoeajnpnadaa
open Go.RowKit
set_option linter.unusedVariables false
set_option linter.unusedSimpArgs false

/-- A row of the caller's put behind nothing. -/
theorem copy_arg {P : Program} {W : World} {k : IntKind} {lo hi : Int} {a : Option Addr} {xs : List Int} (c : Nat) (t e : TypeId) (i : TypeInfo) (z : Value) (bytes : Nat) (ht : P.underlying t = some (.slice e)) (hi' : P.info? e = some i) (hz : i.zero = some z)
    (hsize : i.size = 1) (hby : i.bytes = bytes) (hzs : z.cells.size = 1) (h : Row k lo hi W a xs) (hn : xs.length ≤ 16777216) (hb8 : bytes ≤ 8) :
    ∃ o d B, (Builtin.append_ #[t, t] t #[.slice none 0 0, .slice a xs.length c]).run P W = .ok (.slice o xs.length d) B ∧ B.ownsRow W.heap.size e 1 (.slice o xs.length d) xs.length (xs.map (Value.int k)) ∧ Below W.heap.size W B := by
  have hbb : xs.length * bytes ≤ 140737488355328 := by
    have := Nat.mul_le_mul hn hb8
    omega
  have main : ∀ p : Addr, (∀ j u, (xs.map (Value.int k))[j]? = some u → W.cell? (p.add j) = some u) → ∃ o d B, (Builtin.append_ #[t, t] t #[.slice none 0 0, .slice (some p) xs.length c]).run P W = .ok (.slice o xs.length d) B ∧ B.ownsRow W.heap.size e 1 (.slice o xs.length d) xs.length (xs.map (Value.int k)) ∧ Below W.heap.size W B := by
    intro p hp
    obtain ⟨v2, B, hr, ho2, hgb, _, _⟩ := run_append_own_at (P := P) W W.heap.size t t e i z 1 bytes ht hi' hz hsize hby hzs (by decide) (.slice none 0 0) 0 [] (World.ownsRow_nil _ _ _ _) p xs.length c (xs.map (Value.int k)) (by simp) hp (one_ints _ _) (by simp [maxLen]; omega) (by simpa using hbb) (Nat.le_refl _)
    obtain ⟨o, d, rfl⟩ := own_slc ho2
    rw [Nat.zero_add] at hr ho2
    rw [List.nil_append] at ho2
    exact ⟨o, d, B, hr, ho2, grown_below hgb⟩
  rcases h.2 with rfl | ⟨b, off, rfl, hl, hc⟩
  · cases a with
    | none =>
      refine ⟨none, 0, W, ?_, ?_, Below.refl _ _⟩
      · simp [Builtin.append_, run_underlying ht, sizeOf, typeInfo, zeroValue, hi', hz, Builtin.lenOf, Question.forced, run_firstCells_none]
      · exact World.ownsRow_nil _ _ _ _
    | some p => exact main p (fun j u hu => by simp at hu)
  · refine main _ (fun j u hu => ?_)
    have hj : j < xs.length := by
      rcases Nat.lt_or_ge j xs.length with h' | h'
      · exact h'
      · rw [List.getElem?_eq_none (by simpa using h')] at hu; cases hu
    have ha : (⟨b, off, none⟩ : Addr).add j = ⟨b, off + j, none⟩ := by
      simp [Addr.add]
    rw [ha, hc j hj]
    rw [List.getElem?_map, List.getElem?_eq_getElem hj] at hu
    rw [← hu]
    simp [List.getD, List.getElem?_eq_getElem hj]
theorem lits_arg {W : World} {a : Option Addr} {xs : List Int} (c : Nat) (h : Lits W a xs) (hn : xs.length ≤ 16777216) :
    ∃ o d B, (Builtin.append_ #[41, 41] 41 #[.slice none 0 0, .slice a xs.length c]).run Try.prog W = .ok (.slice o xs.length d) B ∧ B.ownsRow W.heap.size 44 1 (.slice o xs.length d) xs.length (xs.map (Value.int .i32)) ∧ Below W.heap.size W B := by
  obtain ⟨i0, hi, hz⟩ := Option.map_eq_some_iff.1 info44
  simp only [Prod.mk.injEq] at hz
  exact copy_arg c 41 44 i0 _ 4 Try.underlying41 hi hz.1 hz.2.1 hz.2.2 rfl h hn (by decide)
theorem hnts_arg {W : World} {a : Option Addr} {xs : List Int} (c : Nat) (h : Hnts W a xs) (hn : xs.length ≤ 16777216) :
    ∃ o d B, (Builtin.append_ #[39, 39] 39 #[.slice none 0 0, .slice a xs.length c]).run Try.prog W = .ok (.slice o xs.length d) B ∧ B.ownsRow W.heap.size 2 1 (.slice o xs.length d) xs.length (xs.map (Value.int .i64)) ∧ Below W.heap.size W B := by
  obtain ⟨i0, hi, hz⟩ := Option.map_eq_some_iff.1 info2
  simp only [Prod.mk.injEq] at hz
  exact copy_arg c 39 2 i0 _ 8 Try.underlying39 hi hz.1 hz.2.1 hz.2.2 rfl h hn (by decide)

/-- Steps that are told in new memory. -/
def LentOut (w : World) (ss : List Lra.Stp) (e : Ending) (w' : World) : Prop := ∃ (qs : List Q) (v : Value), e = .returned v ∧ qs.map (·.1) = ss ∧ Mem w.heap.size w' v qs ∧ Below w.heap.size w w'

set_option maxRecDepth 100000 in
set_option maxHeartbeats 8000000 in
theorem lent10 (a : Option Addr) (n c : Nat) (ss : List Lra.Stp) (w : World) (hn : ss.length = n) (hb : n ≤ 1000000) (hi : Lra.items ss ≤ 1000000) (hs : Steps w a ss) :
    Calls Try.prog 10 #[.slice a n c] w fun e w' => LentOut w ss e w' := by
  have HS := hid hs
  have HN := hid hn
  have HI := hid hi
  have sh := hs.shape
  rw [hn] at sh
  clear hs hn hi
  rcases sh with Z | ⟨b, off, rfl⟩
  all_goals
    go_enter Try.func10, Try.ntmps10
    go_wp2
    go_loopw [3, 4, 5, 6, 7] (fun ov iv _ _ _ wr => ∃ (k : Nat) (qs : List Q) (o : Option Addr) (d : Nat), ov = .slice o k d ∧ iv = .int .i64 k ∧ k ≤ n ∧ Hid (qs.map (·.1) = ss.take k) ∧ Hid (Mem w.heap.size wr (.slice o k d) qs) ∧ Hid (Below w.heap.size w wr)) (fun _ iv _ _ _ _ => n - (intOf iv).toNat)
    case atStart => exact ⟨0, [], none, 0, rfl, rfl, Nat.zero_le _, hid (by simp), hid (Mem.nil _ _), hid (Below.refl _ _)⟩
    case round =>
      obtain ⟨k, qs, o, d, rfl, rfl, hk, HQ, HM, HB⟩ := hrel
      by_cases hlt : k < n
      · have hlt' : (k : Int) < n := by omega
        first
        | (exfalso; have := Z.out; omega)
        | (have hks : k < ss.length := by rw [HN.out]; exact hlt
           obtain ⟨a1, c1, a2, c2, hst⟩ := (HS.out.below HB.out).at (j := k) hks
           have hql : qs.length = k := by
             have := congrArg List.length HQ.out
             rw [List.length_map, List.length_take] at this
             omega
           have HTK := hid (List.take_succ_eq_append_getElem hks)
           have hil := Lra.items_le ss (k + 1)
           rw [Lra.items_take ss k hks] at hil
           have hl1 : ss[k].lits.length ≤ 16777216 := by have := HI.out; omega
           have hl2 : ss[k].hints.length ≤ 16777216 := by have := HI.out; omega
           have hQ : ∀ q : Q, q.1 = ss[k] → (qs ++ [q]).map (·.1) = ss.take (k + 1) := by
             rintro q hq
             rw [HTK.out, List.map_append, HQ.out]; simp [hq]
           have HQQ := hid hQ
           clear hil hQ HTK
           generalize ss[k] = s at hst hl1 hl2 HQQ
           obtain ⟨x0, x1, x2, x3, hv⟩ := hst
           -- the worlds of a round
           obtain ⟨V1, hV1⟩ : ∃ V1, wr.alloc (.cells #[.int .u8 s.kind, .int .i64 s.id, .slice a1 s.lits.length c1, .slice a2 s.hints.length c2] 43) = V1 := ⟨_, rfl⟩
           have hB1 : Below wr.heap.size wr V1 := by rw [← hV1]; exact below_box _ _
           have hN1 : V1.heap[wr.heap.size]? = some (.cells #[.int .u8 s.kind, .int .i64 s.id, .slice a1 s.lits.length c1, .slice a2 s.hints.length c2] 43 (0, 0)) := by rw [← hV1]; exact heap_alloc_new _ _
           obtain ⟨o1, d1, A1, r1, ow1, b1⟩ := lits_arg c1 (hv.below hB1).l hl1
           obtain ⟨o2, d2, A2, r2, ow2, b2⟩ := hnts_arg c2 ((hv.below hB1).below b1).h hl2
           have hs1 : wr.heap.size < V1.heap.size := (Array.getElem?_eq_some_iff.1 hN1).1
           have hN2 := (b1.block _ hs1).trans hN1
           have hN3 := (b2.block _ (Array.getElem?_eq_some_iff.1 hN2).1).trans hN2
           have hN4 := heap_set_row (k := 2) hN3 (.slice o1 s.lits.length d1)
           have hN5 := heap_set_row (k := 3) hN4 (.slice o2 s.hints.length d2)
           obtain ⟨V2, hV2⟩ : ∃ V2, (A2.setCell ⟨wr.heap.size, 2, none⟩ (.slice o1 s.lits.length d1)).setCell ⟨wr.heap.size, 3, none⟩ (.slice o2 s.hints.length d2) = V2 := ⟨_, rfl⟩
           rw [hV2] at hN5
           have hkeep : ∀ g, g < wr.heap.size → V2.heap[g]? = wr.heap[g]? := fun g hg => by
             rw [← hV2]
             exact (heap_other _ _ (by omega)).trans ((heap_other _ _ (by omega)).trans ((b2.block g (by have := b1.size; omega)).trans ((b1.block g (by omega)).trans (hB1.block g hg))))
           have hA12 : V1.heap.size ≤ A2.heap.size := Nat.le_trans b1.size b2.size
           have hs2 : V2.heap.size = A2.heap.size := by rw [← hV2]; simp [World.setCell]
           have hqv : QV w.heap.size V2 (s, .slice o1 s.lits.length d1, .slice o2 s.hints.length d2) := by
             have hbw := HB.out.size
             have h1 := b1.size
             rw [← hV2]
             exact ⟨own_base (own_set (own_set (own_below ow1 b2) hs1 _) hs1 _) (by omega), own_base (own_set (own_set ow2 (by omega) _) (by omega) _) (by omega)⟩
           have hmem : Mem w.heap.size V2 (.slice o k d) qs := HM.out.keep (fun g hg => hkeep g (HM.out.row.lt g hg).2) (fun q hq g hg => hkeep g ((HM.out.each q hq).lt hg).2)
           obtain ⟨o3, d3, B, r3, hm3, kp3, sz3, os3, tp3, ot3, _⟩ := hmem.push _ hqv (by omega) (by have := HB.out.size; omega)
           rw [hql] at r3 hm3
           have hBB : Below w.heap.size w B := by
             refine HB.out.trans ⟨?_, ?_, ?_, by omega, fun g hg => (kp3 g (by have := HB.out.size; omega) (fun e => by have := (HM.out.row.lt g e).1; omega)).trans (hkeep g (by have := HB.out.size; omega))⟩
             · rw [os3, ← hV2]; exact b2.os.trans (b1.os.trans hB1.os)
             · rw [tp3, ← hV2]; exact b2.tape.trans (b1.tape.trans hB1.tape)
             · rw [ot3, ← hV2]; exact b2.output.trans (b1.output.trans hB1.output)
           have p2 := row_cell hN1 2
           have p3 := row_cell hN2 3
           have p4 := row_cell hN3 2
           have p5 := row_frozen hN3 2
           have p6 := row_cell hN4 3
           have p7 := row_frozen hN4 3
           have y0 := row_cell hN5 0
           have y1 := row_cell hN5 1
           have y2 := row_cell hN5 2
           have y3 := row_cell hN5 3
           simp only [List.getElem?_toArray, List.getElem?_cons_zero, List.getElem?_cons_succ, List.setIfInBounds_toArray, List.set_cons_zero, List.set_cons_succ] at p2 p3 p4 p6 y0 y1 y2 y3
           have HR1 := hid r1
           have HR2 := hid r2
           have HR3 := hid r3
           have HM3 := hid hm3
           have HBB := hid hBB
           have HV1 := hid hV1
           have HV2 := hid hV2
           clear r1 r2 r3 hm3 hBB hmem hqv ow1 ow2 b1 b2 hv hkeep kp3 hN1 hN2 hN3 hN4 hN5 hB1 hl1 hl2 os3 tp3 ot3 sz3 hs1 hs2 hA12 hql
           generalize s.lits.length = m1 at *
           generalize s.hints.length = m2 at *
           go_wp2_with (first
             | (at_builtin; refine wpList_append_run rfl (.tmp 18) (.tmp 20) 41 41 rfl rfl rfl HR1.out ?_; clear HR1)
             | (at_builtin; refine wpList_append_run rfl (.tmp 22) (.tmp 24) 39 39 rfl rfl rfl HR2.out ?_; clear HR2)
             | (at_builtin; refine wpList_append_run rfl (.tmp 30) (.tmp 32) 22 22 rfl rfl rfl HR3.out ?_; clear HR3))
           go_roundw
           case rel => exact ⟨k + 1, _, _, _, by go_num, by go_num, by omega, hid (HQQ.out _ rfl), HM3, HBB⟩
           case measure => simp [intOf]; omega)
      · have hlt' : ¬ (k : Int) < n := by omega
        obtain rfl : k = n := by omega
        go_wp2
        go_ret
        exact ⟨qs, _, rfl, by rw [HQ.out, List.take_of_length_le (by rw [HN.out]; exact Nat.le_refl _)], HM.out, HB.out⟩
end Go.Proofs.Ytmgeoeajnpnadaa
