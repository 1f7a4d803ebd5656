/- The document's Back, Next, Lits. -/
import Derived.Test.YtckpahdlcdgbpaaDtP
namespace Go.Proofs.Ytckpahdlcdgbpaa
open Go.RowKit Go.Maps
set_option linter.unusedVariables false
set_option maxRecDepth 100000

/-- A row of literals of one's own, one more. -/
theorem litpush {B : Nat} {v : Value} {k : Nat} {xs : List Int} {W : World} (h : W.ownsRow B 33 1 v k (xs.map (Value.int .i32))) (hB : B ≤ W.heap.size) (hk : k ≤ 1048576) (l : Int) :
    ∃ g c X, (Builtin.append_ #[40, 40] 40 #[v, .slice (some ⟨W.heap.size, 0, none⟩) 1 1]).run Try.prog (W.alloc (.cells #[.int .i32 l] 33)) = .ok (.slice (some ⟨g, 0, none⟩) (k + 1) c) X ∧ X.ownsRow B 33 1 (.slice (some ⟨g, 0, none⟩) (k + 1) c) (k + 1) ((xs ++ [l]).map (Value.int .i32)) ∧ Below B W X := by
  obtain ⟨i0, hi, hz⟩ := Option.map_eq_some_iff.1 info33
  simp only [Prod.mk.injEq] at hz
  have hal := below_box W (.cells #[.int .i32 l] 33)
  have hsz : (W.alloc (.cells #[.int .i32 l] 33)).heap.size = W.heap.size + 1 := by simp
  obtain ⟨g, c, X, hr, ho, hg, hat, hlt⟩ := run_append_lies (P := Try.prog) (W.alloc (.cells #[.int .i32 l] 33)) 40 40 B 33 i0 _ 1 4 Try.underlying40 hi hz.1 hz.2.1 hz.2.2 rfl (by decide) v k _ (own_below h hal)
    ⟨W.heap.size, 0, none⟩ 1 1 [.int .i32 l] rfl (World.news_of_block (heap_alloc_new W (.cells #[.int .i32 l] 33))) (by intro u hu; rw [List.mem_singleton.1 hu]; rfl) (by decide) (by unfold maxLen; omega) (by omega) (by rw [hsz]; omega) _ hsz
  refine ⟨g, c, X, hr, by rw [List.map_append]; exact ho, (hal.mono hB).trans ?_⟩
  exact ⟨hg.os, hg.tape, hg.output, hg.size, fun q hq => hg.block q (by rw [hsz]; omega) (fun e => by obtain ⟨h1, _⟩ := own_blk (own_below h hal) e.symm; omega)⟩
theorem next35 {B db n : Nat} {s : Trl.S} {W : World} (H : Dtx B db n s W) :
    Calls Try.prog 35 #[.pointer (some ⟨db, 0, none⟩)] W fun e w' => e = .returned (.tuple #[.int .i32 (Trl.nextL s), .bool (Trl.nextB s)]) ∧ DidD B db n W (Trl.next s) w' := by
  have HH := hid H
  obtain ⟨rv, h⟩ := H
  obtain ⟨o, c, rfl, hsh⟩ := h.shape
  have hln := h.ok.len
  have hn := h.ok.n
  have hh := h.ok.h
  have c1 := row_cell h.blk 1
  have c3 := row_cell h.blk 3
  unfold Trl.nextL Trl.nextB
  by_cases he : s.h = s.R.length
  · rw [if_pos he, if_pos he]
    have HN := hid (show Trl.next s = s by unfold Trl.next; rw [if_pos he])
    rw [he] at c3
    clear h
    go_enter Try.func35, Try.ntmps35
    go_wp2
    go_quiet (fail)
    go_wp2
    go_ret2
    exact ⟨rfl, by rw [HN.out]; exact DidD.below HH.out (Drawn.below ⟨_, rfl⟩)⟩
  · rw [if_neg he, if_neg he]
    have HN := hid (show Trl.next s = ⟨s.R, s.B, s.h + 1⟩ by unfold Trl.next; rw [if_neg he])
    have hlt : s.h < s.R.length := by omega
    obtain ⟨g, rfl⟩ : ∃ g, o = some ⟨g, 0, none⟩ := by
      rcases hsh with h0 | h0
      · omega
      · exact h0
    have d0 := h.cell hlt (t := 0) rfl
    rw [Nat.add_zero] at d0
    have hlt' : ¬ (s.R.length : Int) ≤ s.h := by omega
    have hlt2 : (s.h : Int) < s.R.length := by omega
    have hwr : IntKind.i64.wrap ((s.h : Nat) : Int) = (s.h : Nat) := by rw [IntKind.wrap_i64]; omega
    have f3 := row_frozen h.blk 3
    have hok := h.ok.next
    rw [HN.out] at hok
    have hnd : (Value.slice (some ⟨g, 0, none⟩) s.R.length c).ownBlock ≠ some db := fun e => by
      obtain ⟨_, cur, hq⟩ := own_blk h.own e
      have := h.blk
      rw [hq] at this; injection this with e3; injection e3 with _ e3; cases e3
    have hgd : g ≠ db := fun e => hnd (by rw [e]; rfl)
    have HD := hid (fun q => show DidD B db n W ⟨s.R, s.B, s.h + 1⟩ ((W.drewN q).setCell ⟨db, 3, none⟩ (.int .i64 ((s.h : Int) + 1))) from DidD.pre (W1 := W.drewN q) ⟨q, rfl⟩
      ⟨⟨_, ⟨h.ndb, by rw [heap_set_row (W := W.drewN q) h.blk]; rfl, own_other (W := W.drewN q) h.own hnd (fun x hx => heap_other (W.drewN q) _ hx), hok⟩⟩, Fr.set (W.drewN q) _ (by show ¬ db < B; have := h.ndb; omega) (fun o ho => by have ho' : W.heap[db]? = some o := ho; rw [h.blk] at ho'; cases ho'; exact .inl rfl)⟩)
    have e4 := fun q => show ((W.drewN q).setCell ⟨db, 3, none⟩ (.int .i64 ((s.h : Int) + 1))).cell? ⟨g, s.h * 3, none⟩ = some (.int .i32 (Trl.get s.R s.h).lit) from (World.cell?_of_block (w := W.drewN q) (a := ⟨g, s.h * 3, none⟩) (heap_other (W.drewN q) _ hgd)).trans d0
    clear h hok hnd
    generalize (Trl.get s.R s.h).lit = l at *
    go_enter Try.func35, Try.ntmps35
    go_wp2
    go_quiet (fail)
    go_wp2
    go_quiet (fail)
    go_wp2
    go_ret2
    exact ⟨rfl, by rw [HN.out]; exact ⟨(HD.out _).1.below (Drawn.below ⟨_, rfl⟩), (HD.out _).2.trans (Fr.of_below (Drawn.below ⟨_, rfl⟩))⟩⟩
set_option maxHeartbeats 2000000 in
theorem lits38 {B db n : Nat} {s : Trl.S} {W : World} (H : Dtx B db n s W) :
    Calls Try.prog 38 #[.pointer (some ⟨db, 0, none⟩)] W fun e w' => CloneOut W (s.R.map (·.lit)) s.R.length e w' := by
  obtain ⟨rv, h⟩ := H
  obtain ⟨o, c, rfl, hsh⟩ := h.shape
  have hln := h.ok.len
  have hn := h.ok.n
  have HD := hid h
  clear h
  go_enter Try.func38, Try.ntmps38
  go_wp2
  go_loopw [3, 4] (fun cv iv wr => ∃ (i : Nat) (o' : Option Addr) (c' : Nat), i ≤ s.R.length ∧ iv = .int .i64 i ∧ cv = .slice o' i c' ∧ Hid (wr.ownsRow W.heap.size 33 1 (.slice o' i c') i (((s.R.take i).map (·.lit)).map (Value.int .i32)) ∧ Below W.heap.size W wr)) (fun _ iv _ => s.R.length - (intOf iv).toNat)
  case atStart => exact ⟨0, none, 0, Nat.zero_le _, rfl, rfl, hid ⟨World.ownsRow_nil _ _ _ _, Below.refl _ _⟩⟩
  case round =>
    obtain ⟨i, o', c', hi, rfl, rfl, HI⟩ := hrel
    have hDr := HD.out.below HI.out.2
    have c1 := row_cell hDr.blk 1
    by_cases hlt : i < s.R.length
    · have hlt' : (i : Int) < s.R.length := by omega
      obtain ⟨g, rfl⟩ : ∃ g, o = some ⟨g, 0, none⟩ := by
        rcases hsh with h0 | h0
        · omega
        · exact h0
      have d0 := hDr.cell hlt (t := 0) rfl
      rw [Nat.add_zero] at d0
      obtain ⟨g2, c2, X, hrn, ho2, hb2⟩ := litpush HI.out.1 HI.out.2.size (by omega) (Trl.get s.R i).lit
      have HT := hid (show ((s.R.take (i + 1)).map (·.lit)) = (s.R.take i).map (·.lit) ++ [(Trl.get s.R i).lit] by
        rw [List.take_add_one, Trl.get_at hlt]; simp)
      have HRN := hid hrn
      have HO := hid (show X.ownsRow W.heap.size 33 1 (.slice (some ⟨g2, 0, none⟩) (i + 1) c2) (i + 1) (((s.R.take (i + 1)).map (·.lit)).map (Value.int .i32)) ∧ Below W.heap.size W X from ⟨by rw [HT.out]; exact ho2, HI.out.2.trans hb2⟩)
      have hgl := cell_lt d0
      have e1 := fun o9 => (World.cell?_of_block (a := ⟨db, 1, none⟩) ((below_box wr o9).block db (lt_of_blk hDr.blk))).trans c1
      have e2 := fun o9 => (World.cell?_of_block (a := ⟨g, i * 3, none⟩) ((below_box wr o9).block g hgl)).trans d0
      clear hDr hrn ho2 hb2 HI HT
      generalize (Trl.get s.R i).lit = l at *
      go_wp2_with (at_builtin; refine wpList_append_run rfl (.tmp 14) (.tmp 23) 40 40 rfl rfl rfl HRN.out ?_)
      exact ⟨⟨i + 1, _, _, by omega, by go_num, rfl, HO⟩, by simp only [intOf]; omega⟩
    · have hge : ¬ (i : Int) < s.R.length := by omega
      obtain rfl : i = s.R.length := by omega
      have HO := hid (show CloneOut W (s.R.map (·.lit)) s.R.length (.returned (.slice o' s.R.length c')) wr from ⟨o', c', rfl, by have := HI.out.1; rwa [List.take_length] at this, HI.out.2⟩)
      clear hDr HI
      go_wp2
      go_ret
      exact HO.out
/-- What the document's Back tells and leaves. -/
def BackOutD (B db n : Nat) (W : World) (xs : List Int) (er : Int) (s' : Trl.S) (e : Ending) (w' : World) : Prop :=
  ∃ o k, e = .returned (.tuple #[.slice o xs.length k, .int .i64 er]) ∧ w'.ownsRow W.heap.size 33 1 (.slice o xs.length k) xs.length (xs.map (Value.int .i32)) ∧ DidD B db n W s' w'
set_option maxHeartbeats 2000000 in
theorem back34_err {B db n : Nat} {s : Trl.S} {W : World} (H : Dtx B db n s W) (lev : Int) (h : lev < 0 ∨ (s.B.length : Int) < lev) :
    Calls Try.prog 34 #[.pointer (some ⟨db, 0, none⟩), .int .i64 lev] W fun e w' => BackOutD B db n W [] 101 s e w' := by
  have HO := hid (fun (w' : World) (hb : Drawn W w') => show BackOutD B db n W [] 101 s (.returned (.tuple #[.slice none 0 0, .int .i64 101])) w' from ⟨none, 0, rfl, World.ownsRow_nil _ _ _ _, DidD.below H hb.below⟩)
  obtain ⟨rv, h1⟩ := H
  have c2 := row_cell h1.blk 2
  clear h1
  by_cases hl : lev < 0
  · clear h
    go_enter Try.func34, Try.ntmps34
    go_wp2
    go_ret2
    exact HO.out _ (Drawn.refl _)
  · have hl2 : (s.B.length : Int) < lev := by omega
    clear h
    go_enter Try.func34, Try.ntmps34
    go_wp2
    go_ret2
    exact HO.out _ (Drawn.refl _)
theorem erow_take (R : List Trl.E) (k : Nat) (h : k ≤ R.length) : erow (R.take k) = (erow R).take (k * 3) := by
  have e1 : erow R = erow (R.take k) ++ erow (R.drop k) := by rw [← erow_append, List.take_append_drop]
  rw [e1]
  exact (List.take_left' (by rw [erow_len, List.length_take, Nat.min_eq_left h])).symm
theorem rev_step (R : List Trl.E) (k : Nat) (h : k < R.length) : ((R.drop k).map Trl.E.lit).reverse = ((R.drop (k + 1)).map Trl.E.lit).reverse ++ [(Trl.get R k).lit] := by
  rw [List.drop_eq_getElem_cons h, List.map_cons, List.reverse_cons, show Trl.get R k = R[k] by simp [Trl.get, List.getD, h]]
def set3 (W : World) (db : Nat) (v1 v2 v3 : Value) : World := ((W.setCell ⟨db, 1, none⟩ v1).setCell ⟨db, 2, none⟩ v2).setCell ⟨db, 3, none⟩ v3
theorem set3_other (W : World) (db : Nat) (v1 v2 v3 : Value) {x : Nat} (h : x ≠ db) : (set3 W db v1 v2 v3).heap[x]? = W.heap[x]? := by
  unfold set3
  rw [heap_other _ _ h, heap_other _ _ h, heap_other _ _ h]
theorem Dt.cut {B db : Nat} {o : Option Addr} {c n : Nat} {s : Trl.S} {W : World} (h : Dt B db (.slice o s.R.length c) n s W) (lev : Nat) (hlev : lev ≤ s.B.length) (k : Nat) (hk : Trl.left s lev = k) (mh : Int) (hm : mh = (min s.h k : Nat)) :
    DidD B db n W (Trl.back s lev) (set3 W db (.slice o k c) (.int .i64 (lev : Nat)) (.int .i64 mh)) := by
  have hnd : (Value.slice o s.R.length c).ownBlock ≠ some db := fun e => by
    obtain ⟨_, cur, hq⟩ := own_blk h.own e
    have := h.blk
    rw [hq] at this; injection this with e3; injection e3 with _ e3; cases e3
  have hoth := fun x hx => set3_other W db (.slice o k c) (.int .i64 (lev : Nat)) (.int .i64 mh) (x := x) hx
  have hb3 := heap_set_row (k := 3) (heap_set_row (k := 2) (heap_set_row (k := 1) h.blk (.slice o k c)) (.int .i64 (lev : Nat))) (.int .i64 mh)
  have hkl : k ≤ s.R.length := by rw [← hk]; exact (h.ok.left lev).1
  have hsz : (set3 W db (.slice o k c) (.int .i64 (lev : Nat)) (.int .i64 mh)).heap.size = W.heap.size := by simp [set3, World.setCell]
  refine ⟨⟨.slice o k c, h.ndb, ?_, ?_, h.ok.back hlev⟩, ⟨rfl, rfl, rfl, by rw [hsz]; exact Nat.le_refl _, fun g o hg hp => (hoth g (fun e => ?_)).trans hg⟩⟩
  · show (set3 W db _ _ _).heap[db]? = some (.cells #[_, _, .int .i64 ((s.B.take lev).length : Nat), .int .i64 ((min s.h (Trl.left s lev) : Nat) : Int)] 66 (0, 0))
    rw [hk, ← hm, List.length_take, Nat.min_eq_left hlev]
    exact hb3
  · show World.ownsRow _ B 84 3 (.slice o k c) (s.R.take (Trl.left s lev)).length (erow (s.R.take (Trl.left s lev)))
    rw [hk, List.length_take, Nat.min_eq_left hkl]
    refine own_other (W := W) (g := db) ?_ (by cases o <;> exact hnd) hoth
    rcases h.own.2 with ⟨e, h0⟩ | ⟨g, c9, cu, e, p1, p2, p3, p4, p5, p6⟩
    · injection e with e1 e2 e3
      have hk0 : k = 0 := by omega
      subst e1 e3 hk0
      rw [List.take_zero]
      exact World.ownsRow_nil _ _ _ _
    · injection e with e1 e2 e3
      subst e1 e3
      refine ⟨by rw [erow_len, List.length_take, Nat.min_eq_left hkl], .inr ⟨g, c, cu, rfl, p1, p2, by omega, p4, p5, ?_⟩⟩
      rw [erow_take s.R k hkl, ← p6, List.take_take, Nat.min_eq_left (by omega)]
  · subst e
    rcases hp with hp | hp
    · have := h.ndb; have hp' : g < B := hp; omega
    · rw [h.blk] at hg; cases hg; exact hp (.inl rfl)
set_option maxHeartbeats 4000000 in
theorem back34_ok {B db n : Nat} {s : Trl.S} {W : World} (H : Dtx B db n s W) (hB : B ≤ W.heap.size) (lev : Nat) (hlev : lev ≤ s.B.length) :
    Calls Try.prog 34 #[.pointer (some ⟨db, 0, none⟩), .int .i64 (lev : Nat)] W fun e w' => BackOutD B db n W (Trl.gone s lev) 0 (Trl.back s lev) e w' := by
  obtain ⟨rv, h⟩ := H
  obtain ⟨o, c, rfl, hsh⟩ := h.shape
  have hln := h.ok.len
  have hn := h.ok.n
  have hbl := h.ok.bl
  have hh := h.ok.h
  obtain ⟨l1, l2, l3⟩ := h.ok.left lev
  have HL2 := hid l2
  have HL3 := hid (l3 hlev)
  have HD := hid h
  have c1 := row_cell h.blk 1
  have c2 := row_cell h.blk 2
  have hl0 : ¬ (lev : Int) < 0 := by omega
  have hl1 : ¬ (s.B.length : Int) < lev := by omega
  obtain ⟨lf, hlf⟩ : ∃ lf, Trl.left s lev = lf := ⟨_, rfl⟩
  rw [hlf] at l1 HL2 HL3
  have HLF := hid hlf
  clear h l2 l3 hlf
  go_enter Try.func34, Try.ntmps34
  go_wp2
  go_loopw [6, 7] (fun gv kv wr => ∃ (k : Nat) (o' : Option Addr) (c' : Nat), lf ≤ k ∧ k ≤ s.R.length ∧ kv = .int .i64 k ∧ gv = .slice o' (s.R.length - k) c' ∧ Hid (wr.ownsRow W.heap.size 33 1 (.slice o' (s.R.length - k) c') (s.R.length - k) ((((s.R.drop k).map Trl.E.lit).reverse).map (Value.int .i32)) ∧ Below W.heap.size W wr)) (fun _ kv _ => (intOf kv).toNat)
  case atStart => exact ⟨s.R.length, none, 0, l1, Nat.le_refl _, rfl, by rw [Nat.sub_self], hid ⟨by rw [Nat.sub_self, List.drop_length]; exact World.ownsRow_nil _ _ _ _, Below.refl _ _⟩⟩
  case round =>
    obtain ⟨k, o', c', hk1, hk2, rfl, rfl, HI⟩ := hrel
    have hDr := HD.out.below HI.out.2
    have y1 := row_cell hDr.blk 1
    by_cases hkl : lf < k
    · obtain ⟨j, rfl⟩ : ∃ j, k = j + 1 := ⟨k - 1, by omega⟩
      have hjl : j < s.R.length := by omega
      obtain ⟨g, rfl⟩ : ∃ g, o = some ⟨g, 0, none⟩ := by
        rcases hsh with h0 | h0
        · omega
        · exact h0
      have d0 := hDr.cell hjl (t := 0) rfl
      have d1 := hDr.cell hjl (t := 1) rfl
      rw [Nat.add_zero] at d0
      have hgt := HL2.out j hjl (by omega)
      have hgt' : (lev : Int) < ((Trl.get s.R j).lev : Nat) := by omega
      have hk0 : (0 : Int) < ((j + 1 : Nat) : Int) := by omega
      have hj1 : ((j + 1 : Nat) : Int) - 1 = (j : Nat) := by omega
      have hjl' : (j : Int) < s.R.length := by omega
      obtain ⟨g2, c2', X, hrn, ho2, hb2⟩ := litpush HI.out.1 HI.out.2.size (by omega) (Trl.get s.R j).lit
      have hm : s.R.length - (j + 1) + 1 = s.R.length - j := by omega
      rw [hm] at hrn ho2
      have HRN := hid hrn
      have HO := hid (show X.ownsRow W.heap.size 33 1 (.slice (some ⟨g2, 0, none⟩) (s.R.length - j) c2') (s.R.length - j) ((((s.R.drop j).map Trl.E.lit).reverse).map (Value.int .i32)) ∧ Below W.heap.size W X from ⟨by rw [rev_step s.R j hjl]; exact ho2, HI.out.2.trans hb2⟩)
      clear hDr hrn ho2 hb2 HI hm
      generalize (Trl.get s.R j).lit = l at *
      generalize (Trl.get s.R j).lev = lv at *
      go_wp2_with (at_builtin; refine wpList_append_run rfl (.tmp 40) (.tmp 49) 40 40 rfl rfl rfl HRN.out ?_)
      exact ⟨⟨j, _, _, by omega, by omega, by go_num, rfl, HO⟩, by simp only [intOf]; omega⟩
    · obtain rfl : k = lf := by omega
      have HOUT := hid (fun (Y : World) (og : Option Addr) (cg : Nat) (hY : Y.ownsRow W.heap.size 33 1 (.slice og (s.R.length - k) cg) (s.R.length - k) ((((s.R.drop k).map Trl.E.lit).reverse).map (Value.int .i32))) (hb : DidD B db n W (Trl.back s lev) Y) => show BackOutD B db n W (Trl.gone s lev) 0 (Trl.back s lev) (.returned (.tuple #[.slice og (s.R.length - k) cg, .int .i64 0])) Y from by
        have e1 : Trl.gone s lev = ((s.R.drop k).map Trl.E.lit).reverse := by unfold Trl.gone; rw [HLF.out]
        have e2 : (((s.R.drop k).map Trl.E.lit).reverse).length = s.R.length - k := by simp
        rw [e1]
        exact ⟨og, cg, by rw [e2], by rw [e2]; exact hY, hb⟩)
      have hmin : (if k < s.h then (k : Int) else (s.h : Int)) = ((min s.h k : Nat) : Int) := by split <;> omega
      have hcut := hDr.cut lev hlev k HLF.out _ hmin
      have hgs := HI.out.1
      have hown : (set3 wr db (.slice o k c) (.int .i64 (lev : Nat)) (.int .i64 (if k < s.h then (k : Int) else (s.h : Int)))).ownsRow W.heap.size 33 1 (.slice o' (s.R.length - k) c') (s.R.length - k) ((((s.R.drop k).map Trl.E.lit).reverse).map (Value.int .i32)) :=
        own_other hgs (fun e => own_type hgs hDr.blk (by decide) e.symm) (fun x hx => set3_other wr db _ _ _ hx)
      have HO2 := hid (HOUT.out _ _ _ hown ⟨hcut.1, (Fr.of_below HI.out.2).trans hcut.2⟩)
      unfold set3 at HO2
      have hkl : k ≤ s.R.length := hk2
      have y3 := row_cell hDr.blk 3
      have z1 := row_frozen hDr.blk 1
      have z2 := row_frozen hDr.blk 2
      have z3 := row_frozen hDr.blk 3
      have y2 := row_cell hDr.blk 2
      have hown0 := hDr.own.2
      have d1 := fun (g9 : Nat) (hg9 : o = some ⟨g9, 0, none⟩) (j : Nat) (hj : k = j + 1) => show wr.cell? ⟨g9, j * 3 + 1, none⟩ = some (.int .i64 ((Trl.get s.R j).lev : Nat)) from by
        subst hg9
        exact hDr.cell (by omega) (t := 1) rfl
      have HLV := hid (fun (j : Nat) (hj : k = j + 1) => HL3.out j (by omega))
      clear hcut hgs hown HOUT HI HL2 HL3 HD hDr HLF
      clear hmin
      rcases hown0 with ⟨e, h0⟩ | ⟨g, c9, cu, e, p1, p2, p3, p4, p5, p6⟩
      · injection e with e1 e2 e3
        have hk0 : k = 0 := by omega
        subst hk0 e1 e3
        have hs0 : ¬ 0 < s.h := by omega
        rw [if_neg hs0] at HO2
        clear d1 HLV
        generalize s.R.length = RL at *
        subst h0
        go_wp2
        go_ret2
        exact HO2.out
      · injection e with e1 e2 e3
        subst e1 e3
        have hkc : k ≤ c := by omega
        rcases Nat.eq_zero_or_pos k with hk0 | hkp
        · subst hk0
          clear d1 p1 p2 p5 p6 HLV
          by_cases hmh : 0 < s.h
          · rw [if_pos hmh] at HO2
            go_wp2
            go_ret2
            exact HO2.out
          · rw [if_neg hmh] at HO2
            go_wp2
            go_ret2
            exact HO2.out
        · obtain ⟨j, rfl⟩ : ∃ j, k = j + 1 := ⟨k - 1, by omega⟩
          have d2 := d1 g rfl j rfl
          have hlv := HLV.out j rfl
          have hlv' : ¬ (lev : Int) < ((Trl.get s.R j).lev : Nat) := by omega
          have hj1 : ((j + 1 : Nat) : Int) - 1 = (j : Nat) := by omega
          have hjl' : (j : Int) < s.R.length := by omega
          have hk0 : (0 : Int) < ((j + 1 : Nat) : Int) := by omega
          generalize (Trl.get s.R j).lev = lvv at *
          clear d1 HLV p1 p2 p5 p6
          by_cases hmh : j + 1 < s.h
          · rw [if_pos hmh] at HO2
            go_wp2
            go_ret2
            exact HO2.out
          · rw [if_neg hmh] at HO2
            go_wp2
            go_ret2
            exact HO2.out
end Go.Proofs.Ytckpahdlcdgbpaa
