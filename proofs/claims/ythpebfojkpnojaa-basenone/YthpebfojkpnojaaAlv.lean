/- alive: those of some ids that are live ones. -/
import Derived.Test.YthpebfojkpnojaaLft
import Derived.Deep.AppendLies
namespace Go.Proofs.Ythpebfojkpnojaa
open Go.RowKit Go.Maps
set_option linter.unusedVariables false
set_option linter.unusedSimpArgs false
set_option maxRecDepth 100000
theorem info2 : (Try.prog.info? 2).map (fun i => (i.zero, i.size, i.bytes)) = some (some (.int .i64 0), 1, 8) := by kernel_rfl
/-- A number more, behind a row of one's own. -/
theorem push2 {W : World} {base : Nat} {v : Value} {k : Nat} {xs : List Int} (ho : W.ownsRow base 2 1 v k (xs.map (Value.int .i64))) (p : Int) (hb : base ≤ W.heap.size) (hk : k ≤ 1000000000) :
    ∃ g c B, (Builtin.append_ #[24, 24] 24 #[v, .slice (some ⟨W.heap.size, 0, none⟩) 1 1]).run Try.prog (W.alloc (.cells #[.int .i64 p] 2)) = .ok (.slice (some ⟨g, 0, none⟩) (k + 1) c) B ∧ B.ownsRow base 2 1 (.slice (some ⟨g, 0, none⟩) (k + 1) c) (k + 1) ((xs ++ [p]).map (Value.int .i64)) ∧
      (W.alloc (.cells #[.int .i64 p] 2)).grownBy B v.ownBlock ∧ (v.ownBlock = some g ∨ g = W.heap.size + 1) := by
  obtain ⟨i0, hi0, hz⟩ := Option.map_eq_some_iff.1 info2
  simp only [Prod.mk.injEq] at hz
  obtain ⟨g, c, B, hr, h2, h3, h5, _⟩ := run_append_lies (P := Try.prog) (W.alloc (.cells #[.int .i64 p] 2)) 24 24 base 2 i0 (.int .i64 0) 1 8 Try.underlying24 hi0 hz.1 hz.2.1 hz.2.2 rfl (by decide) v k _ (ho.alloc _) ⟨W.heap.size, 0, none⟩ 1 1 [.int .i64 p] rfl (World.news_of_block (heap_alloc_new W (.cells #[.int .i64 p] 2))) (by intro u hu; simp at hu; subst hu; rfl) (by decide) (by unfold maxLen; omega) (by omega) (by simp; omega) _ rfl
  exact ⟨g, c, B, hr, by rw [List.map_append]; exact h2, h3, by simpa using h5⟩
theorem below_grown {n : Nat} {A W W' : World} {row : Option Nat} (hb : Below n A W) (hg : W.grownBy W' row) (hr : ∀ k, row = some k → n ≤ k) (hn : n ≤ W.heap.size) : Below n A W' :=
  ⟨hg.os.trans hb.os, hg.tape.trans hb.tape, hg.output.trans hb.output, Nat.le_trans hb.size hg.size, fun g hgl => (hg.block g (by omega) (fun e => by have := hr g e.symm; omega)).trans (hb.block g hgl)⟩
def IntsOut (n : Nat) (xs : List Int) (e : Ending) (w' : World) : Prop := ∃ v, e = .returned v ∧ w'.ownsRow n 2 1 v xs.length (xs.map (Value.int .i64))
set_option maxHeartbeats 4000000 in
theorem alive41 {bb bm k : Nat} {W : World} {f : Int → Option Value} (x3 : W.cell? ⟨bb, 3, none⟩ = some (.map (some bm))) (hM : Mp W bm k f) (hE : ∀ id v, I64 id → f id = some v → ∃ i a n c r, v = .agg #[.int .i64 i, .slice a n c, .bool r]) (a : Option Addr) (n c : Nat) (xs : List Int) (hn : xs.length = n) (hN : n ≤ 100000000) (hx : Hnts W a xs) :
    Calls Try.prog 41 #[.pointer (some ⟨bb, 0, none⟩), .slice a n c] W fun e w' => IntsOut W.heap.size (xs.filter (fun i => (f i).isSome)) e w' ∧ Below W.heap.size W w' := by
  have HX3 := hid (fun X (hX : Below W.heap.size W X) => (hX.cell (p := ⟨bb, 3, none⟩) (cell_lt x3)).trans x3)
  have HMX := hid (fun X (hX : Below W.heap.size W X) => hM.same (hX.block bm hM.lt))
  have HX := hid hx
  have HN := hid hn
  have sh : Hid (n = 0) ∨ ∃ b off, a = some ⟨b, off, none⟩ := by
    rcases hx.2 with h | ⟨b, off, e, _⟩
    · left; rw [h] at hn; exact hn.symm
    · exact .inr ⟨b, off, e⟩
  have HE := hid hE
  clear x3 hM hx hn hE
  rcases sh with Z | ⟨b, off, rfl⟩
  all_goals
    go_enter Try.func41, Try.ntmps41
    go_wp2_with fail
    go_loopw [5, 7, 9, 12] (fun lv _ _ iv wr => ∃ (k2 m : Nat) (lo : Option Addr) (lc : Nat), k2 ≤ n ∧ m ≤ k2 ∧ iv = .int .i64 k2 ∧ lv = .slice lo m lc ∧ Hid (((xs.take k2).filter (fun i => (f i).isSome)).length = m) ∧ Hid (wr.ownsRow W.heap.size 2 1 (.slice lo m lc) m (((xs.take k2).filter (fun i => (f i).isSome)).map (Value.int .i64))) ∧ Hid (Below W.heap.size W wr)) (fun _ _ _ iv _ => n - (intOf iv).toNat)
    case atStart => exact ⟨0, 0, none, 0, Nat.zero_le _, Nat.le_refl _, rfl, rfl, hid (by simp), hid (World.ownsRow_nil _ _ _ _), hid (Below.refl _ _)⟩
    case round =>
      obtain ⟨k2, m, lo, lc, hk2, hm, rfl, rfl, HLN, HO, HB⟩ := hrel
      by_cases hlt : k2 < n
      · first
        | (exfalso; have := Z.out; omega)
        | (have hlt' : (k2 : Int) < n := by omega
           have hkx : k2 < xs.length := by rw [HN.out]; exact hlt
           obtain ⟨b2, off2, e2, _, hc, hlo, hhi⟩ := Row.at (HX.out.below HB.out) hkx
           cases e2
           have x3 := HX3.out _ HB.out
           have hlk := (HMX.out _ HB.out).look (id := xs.getD k2 0) ⟨hlo, hhi⟩
           have HTK := hid (show xs.take (k2 + 1) = xs.take k2 ++ [xs.getD k2 0] by rw [List.take_succ_eq_append_getElem hkx]; simp [List.getD, hkx])
           have HPU := hid (fun (W1 : World) (hb1 : Below wr.heap.size wr W1) => push2 (own_below HO.out hb1) (xs.getD k2 0) (Nat.le_trans HB.out.size hb1.size) (by omega))
           have HBG := hid (fun (W1 B : World) (hb1 : Below wr.heap.size wr W1) (gr1 : (W1.alloc (.cells #[.int .i64 (xs.getD k2 0)] 2)).grownBy B (Value.slice lo m lc).ownBlock) => show Below W.heap.size W B from below_grown ((HB.out.trans (hb1.mono HB.out.size)).trans ((below_box W1 (.cells #[.int .i64 (xs.getD k2 0)] 2)).mono (Nat.le_trans HB.out.size hb1.size))) gr1 (fun q hq => (own_blk HO.out hq).1) (by have := HB.out.size; have := hb1.size; simp; omega))
           have HEV := hid (fun v => HE.out (xs.getD k2 0) v ⟨hlo, hhi⟩)
           have HF := hid (show ∀ q, f (xs.getD k2 0) = q → (xs.take (k2 + 1)).filter (fun i => (f i).isSome) = (xs.take k2).filter (fun i => (f i).isSome) ++ (if q.isSome then [xs.getD k2 0] else []) from fun q hq => by
             rw [HTK.out, List.filter_append]
             congr 1
             rw [List.filter_cons, hq]
             cases q <;> simp)
           generalize xs.getD k2 0 = id at *
           cases hq : f id with
           | none =>
             rw [hq] at hlk
             have HF2 := hid (HF.out none hq)
             simp only [Option.isSome_none, Bool.false_eq_true, if_false, List.append_nil, Option.getD_none] at HF2 hlk
             have HO1 := hid (fun o => own_below HO.out (below_box wr o))
             have HB1 := hid (fun o => HB.out.trans ((below_box wr o).mono HB.out.size))
             clear hq HF HPU HBG HEV
             go_wp2
             go_roundw
             case rel => exact ⟨k2 + 1, m, lo, lc, by omega, by omega, by go_num, rfl, hid (by rw [HF2.out]; exact HLN.out), hid (by rw [HF2.out]; exact HO1.out _), hid (HB1.out _)⟩
             case measure => simp [intOf]; omega
           | some v =>
             rw [hq] at hlk
             have HF2 := hid (HF.out (some v) hq)
             simp only [Option.isSome_some, if_true, Option.getD_some] at HF2 hlk
             obtain ⟨ei, ea, en, ec, er, rfl⟩ := HEV.out v hq
             obtain ⟨W1, hW1⟩ : ∃ W1, wr.alloc (.cells #[.int .i64 ei, .slice ea en ec, .bool er] 32) = W1 := ⟨_, rfl⟩
             have hb1 : Below wr.heap.size wr W1 := by rw [← hW1]; exact below_box _ _
             obtain ⟨g1, c1, B, r1, o1, gr1, w1⟩ := HPU.out W1 hb1
             have HO1 := hid o1
             have R1 := hid r1
             have HB1 := hid (HBG.out W1 B hb1 gr1)
             clear hq r1 o1 gr1 w1 HF HPU HBG HEV hb1
             go_wp2_with (at_builtin; refine wpList_append_run rfl (.tmp 26) (.tmp 28) 24 24 rfl rfl rfl R1.out ?_)
             go_roundw
             case rel => exact ⟨k2 + 1, m + 1, some ⟨g1, 0, none⟩, c1, by omega, by omega, by go_num, rfl, hid (by rw [HF2.out, List.length_append, HLN.out]; rfl), hid (by rw [HF2.out]; exact HO1.out), HB1⟩
             case measure => simp [intOf]; omega)
      · have hge : ¬ (k2 : Int) < n := by omega
        have HT := hid (show xs.take k2 = xs from List.take_of_length_le (by rw [HN.out]; omega))
        have hln := HLN.out
        have ho := HO.out
        rw [HT.out] at hln ho
        have HL2 := hid hln
        have HO2 := hid ho
        clear hln ho
        go_wp2
        go_ret
        exact ⟨⟨_, rfl, by rw [HL2.out]; exact HO2.out⟩, HB.out⟩
end Go.Proofs.Ythpebfojkpnojaa
