/- The document's Collect: the call. -/
import Derived.Test.YtblogmelmpkfhaaDcC
namespace Go.Proofs.Ytblogmelmpkfhaa
open Go.RowKit Go.Maps
set_option linter.unusedVariables false

/-- While it is collected: i of them are gone through. -/
structure CS (W wr : World) (E : List En) (i k : Nat) (fo : Option Addr) (fc : Nat) (to : Option Addr) (tc : Nat) (lo : Option Addr) (lc en : Nat) : Prop where
  f : wr.ownsRow W.heap.size 3 1 (.slice fo k fc) k ((Arn.refs ((items E).take i) 0).map (Value.int .i64))
  t : wr.ownsRow W.heap.size 3 1 (.slice to k tc) k ((Arn.refs (Arn.collect ((items E).take i)) 0).map (Value.int .i64))
  l : wr.ownsRow W.heap.size 92 8 (.slice lo k lc) k (irow (colE (E.take i)) 0)
  ap : Apart (.slice fo k fc) (.slice to k tc)
  en : Arn.size (Arn.collect ((items E).take i)) = en
  b : Below W.heap.size W wr
  len : (colE (E.take i)).length = k
theorem CS.start (W : World) (E : List En) : CS W W E 0 0 none 0 none 0 none 0 0 :=
  ⟨World.ownsRow_nil _ _ _ _, World.ownsRow_nil _ _ _ _, World.ownsRow_nil _ _ _ _, (fun g h => by cases h), rfl, Below.refl _ _, rfl⟩
theorem CS.skip {W wr wr' : World} {E : List En} {i k fc tc lc en : Nat} {fo to lo : Option Addr} (h : CS W wr E i k fo fc to tc lo lc en) {e : En} (he : E[i]? = some e) (hd : e.1.dead = true) (hb : Below wr.heap.size wr wr') : CS W wr' E (i + 1) k fo fc to tc lo lc en := by
  have h1 : Arn.refs ((items E).take (i + 1)) 0 = Arn.refs ((items E).take i) 0 := by rw [Arn.refs_take (items_at he), hd]; simp
  have h2 : Arn.collect ((items E).take (i + 1)) = Arn.collect ((items E).take i) := by rw [Arn.collect_take (items_at he), hd]; simp
  have h3 : colE (E.take (i + 1)) = colE (E.take i) := by rw [col_take he, hd]; simp
  exact ⟨by rw [h1]; exact own_below h.f hb, by rw [h2]; exact own_below h.t hb, by rw [h3]; exact own_below h.l hb, h.ap, by rw [h2]; exact h.en, h.b.trans (hb.mono h.b.size), by rw [h3]; exact h.len⟩
theorem CS.step {W wr B3 : World} {E : List En} {i k fc tc lc en g1 c1 g2 c2 g3 c3 : Nat} {fo to lo : Option Addr} (h : CS W wr E i k fo fc to tc lo lc en) {e : En} (he : E[i]? = some e) (hd : e.1.dead = false) {p : Int} (hp : p = (Arn.size ((items E).take i) : Nat)) {xs : List Value} (hxs : xs = icell en (tightE e))
    (o1 : B3.ownsRow W.heap.size 3 1 (.slice (some ⟨g1, 0, none⟩) (k + 1) c1) (k + 1) ((Arn.refs ((items E).take i) 0 ++ [p]).map (Value.int .i64))) (o2 : B3.ownsRow W.heap.size 3 1 (.slice (some ⟨g2, 0, none⟩) (k + 1) c2) (k + 1) ((Arn.refs (Arn.collect ((items E).take i)) 0 ++ [(en : Int)]).map (Value.int .i64)))
    (o3 : B3.ownsRow W.heap.size 92 8 (.slice (some ⟨g3, 0, none⟩) (k + 1) c3) (k + 1) (irow (colE (E.take i)) 0 ++ xs)) (ap : Apart (.slice (some ⟨g1, 0, none⟩) (k + 1) c1) (.slice (some ⟨g2, 0, none⟩) (k + 1) c2)) (hb : Below W.heap.size wr B3) :
    CS W B3 E (i + 1) (k + 1) (some ⟨g1, 0, none⟩) c1 (some ⟨g2, 0, none⟩) c2 (some ⟨g3, 0, none⟩) c3 (en + (4 + e.1.lits.length)) := by
  have h1 : Arn.refs ((items E).take (i + 1)) 0 = Arn.refs ((items E).take i) 0 ++ [p] := by rw [Arn.refs_take (items_at he), hd, hp]; rfl
  have h2 : Arn.collect ((items E).take (i + 1)) = Arn.collect ((items E).take i) ++ [e.1.tight] := by rw [Arn.collect_take (items_at he), hd]; simp
  have h3 : colE (E.take (i + 1)) = colE (E.take i) ++ [tightE e] := by rw [col_take he, hd]; simp
  have hsz : Arn.size (items (colE (E.take i))) = en := by rw [items_col, items_take]; exact h.en
  refine ⟨by rw [h1]; exact o1, ?_, ?_, ap, ?_, h.b.trans hb, ?_⟩
  · rw [h2, Arn.refs_append, h.en, Int.zero_add]
    have : Arn.refs [e.1.tight] (en : Int) = [(en : Int)] := by
      rw [Arn.refs_cons, if_neg (by simp [Arn.It.tight, hd])]; rfl
    rw [this]
    exact o2
  · rw [h3, irow_snoc, hsz, Int.zero_add, ← hxs]
    exact o3
  · rw [h2, Arn.size_append, h.en]
    simp [Arn.size, Arn.It.tight]
  · rw [h3, List.length_append, h.len]; rfl
/-- What the document's Collect leaves. -/
def ColOut (n : Nat) (fs ts : List Int) (e : Ending) (w' : World) : Prop := ∃ v1 v2, e = .returned (.tuple #[v1, v2]) ∧ w'.ownsRow n 3 1 v1 fs.length (fs.map (Value.int .i64)) ∧ w'.ownsRow n 3 1 v2 fs.length (ts.map (Value.int .i64))
theorem CS.done {W wr : World} {E : List En} {k fc tc lc en n db lim L : Nat} {v : Value} {fo to lo : Option Addr} (h : CS W wr E L k fo fc to tc lo lc en) (hL : E.length = L) (hD : Dc n db lim v E W) {s : Int} (hs : s = (en : Int)) :
    ColOut W.heap.size (Arn.refs (items E) 0) (Arn.refs (Arn.collect (items E)) 0) (.returned (.tuple #[.slice fo k fc, .slice to k tc])) ((wr.setCell ⟨db, 1, none⟩ (.slice lo k lc)).setCell ⟨db, 2, none⟩ (.int .i64 s)) ∧ DidD n db lim W (Arn.collect (items E)) ((wr.setCell ⟨db, 1, none⟩ (.slice lo k lc)).setCell ⟨db, 2, none⟩ (.int .i64 s)) := by
  have e1 : (items E).take L = items E := List.take_of_length_le (by simp [items, hL])
  have e2 : E.take L = E := List.take_of_length_le (by omega)
  obtain ⟨hf, ht, hl, hap, hen, hb, hlen⟩ := h
  rw [e1] at hf ht hen
  rw [e2] at hl hlen
  have hdb := lt_of_blk hD.blk
  have hblk := (hb.block db hdb).trans hD.blk
  have hk : (Arn.refs (items E) 0).length = k := by have := hf.1; simpa using this
  have hf2 : ∀ {e size : Nat} {u : Value} {q : Nat} {xs : List Value}, wr.ownsRow W.heap.size e size u q xs → ((wr.setCell ⟨db, 1, none⟩ (.slice lo k lc)).setCell ⟨db, 2, none⟩ (.int .i64 s)).ownsRow W.heap.size e size u q xs := fun h => own_set (own_set h hdb _) hdb _
  refine ⟨⟨_, _, rfl, by rw [hk]; exact hf2 hf, by rw [hk]; exact hf2 ht⟩, ?_⟩
  have hF1 : Fr pD n wr ((wr.setCell ⟨db, 1, none⟩ (.slice lo k lc)).setCell ⟨db, 2, none⟩ (.int .i64 s)) := by
    refine (Fr.set wr _ hD.ndb (fun o ho2 => ?_)).trans (Fr.set _ _ hD.ndb (fun o ho2 => ?_))
    · have : wr.heap[db]? = some o := ho2
      rw [hblk] at this; cases this; exact .inl rfl
    · have : (wr.setCell ⟨db, 1, none⟩ (.slice lo k lc)).heap[db]? = some o := ho2
      rw [heap_set_row hblk] at this; cases this; exact .inl rfl
  have hF48 : ∀ cs fr, ¬ pD (.cells cs 48 fr) := fun cs fr hx => by rcases hx with hx | hx <;> cases hx
  have hF : Fr pD n W ((wr.setCell ⟨db, 1, none⟩ (.slice lo k lc)).setCell ⟨db, 2, none⟩ (.int .i64 s)) := (Fr.of_below hb).trans hF1
  refine ⟨⟨.slice lo k lc, colE E, ⟨hD.ndb, ?_, ?_, ?_, ?_, ?_, hD.lim, ?_⟩, items_col E⟩, hF⟩
  · rw [heap_set_row (heap_set_row hblk _), items_col, hen, ← hs]; rfl
  · rw [hlen]; exact own_base (hf2 hl) (by have := hD.ndb; omega)
  · intro e he
    obtain ⟨f, hf, rfl⟩ := col_mem he
    exact (hD.lits f hf).fr hF hF48
  · rw [items_col]; exact Arn.collect_ok hD.ok
  · rw [items_col]; exact Nat.le_trans (Arn.collect_size hD.ok) hD.fit
  · intro e he
    obtain ⟨f, hf, rfl⟩ := col_mem he
    exact hD.caps f hf
set_option maxRecDepth 100000 in
set_option maxHeartbeats 4000000 in
theorem collect34 {n db lim : Nat} {M : List Arn.It} {W : World} (hA : Dcx n db lim M W) :
    Calls Try.prog 34 #[.pointer (some ⟨db, 0, none⟩)] W fun e w' => ColOut W.heap.size (Arn.refs M 0) (Arn.refs (Arn.collect M) 0) e w' ∧ DidD n db lim W (Arn.collect M) w' := by
  obtain ⟨v, E, h, rfl⟩ := hA
  have HD := hid h
  obtain ⟨o, c, rfl⟩ := own_slc h.own
  have hEl := h.len
  have hsh := shape_of h
  have HBK := hid (fun (w' : World) (hw : Below W.heap.size W w') => And.intro (row_cell (h.below hw).blk 1) (And.intro (row_frozen (h.below hw).blk 1) (And.intro (row_cell (h.below hw).blk 2) (row_frozen (h.below hw).blk 2))))
  have hcs : ∀ i, Arn.size (Arn.collect ((items E).take i)) ≤ 268435456 := fun i => by
    have h1 : Arn.Oks ((items E).take i) := fun y hy => h.ok y (List.mem_of_mem_take hy)
    have h2 := Arn.collect_size h1
    have h3 : Arn.size (items E) = Arn.size ((items E).take i) + Arn.size ((items E).drop i) := by rw [← Arn.size_append, List.take_append_drop]
    have := h.fit
    have := h.lim
    omega
  have HCS := hid hcs
  obtain ⟨L, hL⟩ : ∃ L, E.length = L := ⟨_, rfl⟩
  have HL := hid hL
  have HDN := hid (fun (wr : World) (k fc tc lc en : Nat) (fo to lo : Option Addr) (q : CS W wr E L k fo fc to tc lo lc en) (s : Int) (hs : s = (en : Int)) => q.done hL h hs)
  rw [hL] at hEl hsh HBK
  obtain ⟨sz, hsz⟩ : ∃ sz, Arn.size (items E) = sz := ⟨_, rfl⟩
  rw [hsz] at HBK
  obtain ⟨c1, f1, c2, f2⟩ := HBK.out W (Below.refl _ _)
  have HS := hid (CS.start W E)
  clear h hL hcs hsz
  rcases hsh with h0 | ⟨g, rfl⟩
  · subst h0
    have HO := hid (HDN.out _ _ _ _ _ _ _ _ _ HS.out 0 rfl)
    go_enter Try.func34, Try.ntmps34
    go_wp2
    go_loopw [4, 5, 6, 7, 8, 9] (fun fv tv lv ev iv _ wr => fv = .slice none 0 0 ∧ tv = .slice none 0 0 ∧ lv = .slice none 0 0 ∧ ev = .int .i64 0 ∧ iv = .int .i64 0 ∧ wr = W) (fun _ _ _ _ _ _ _ => 0)
    case atStart => exact ⟨rfl, rfl, rfl, rfl, rfl, rfl⟩
    case round =>
      obtain ⟨rfl, rfl, rfl, rfl, rfl, hw⟩ := hrel
      rw [hw]
      clear hw
      go_wp2
      go_ret2
      exact HO.out
  · go_enter Try.func34, Try.ntmps34
    go_wp2
    go_loopw [4, 5, 6, 7, 8, 9] (fun fv tv lv ev iv _ wr => ∃ (i k fc tc lc en : Nat) (fo to lo : Option Addr), i ≤ L ∧ k ≤ i ∧ fv = .slice fo k fc ∧ tv = .slice to k tc ∧ lv = .slice lo k lc ∧ ev = .int .i64 en ∧ iv = .int .i64 i ∧ Hid (CS W wr E i k fo fc to tc lo lc en)) (fun _ _ _ _ iv _ _ => L - (intOf iv).toNat)
    case atStart => exact ⟨0, 0, 0, 0, 0, 0, none, none, none, Nat.zero_le _, Nat.le_refl _, rfl, rfl, rfl, rfl, rfl, HS⟩
    case round =>
      obtain ⟨i, k, fc, tc, lc, en, fo, to, lo, hi, hki, rfl, rfl, rfl, rfl, rfl, HQ⟩ := hrel
      clear c1 f1 c2 f2 HS
      obtain ⟨c1, f1, c2, f2⟩ := HBK.out wr HQ.out.b
      by_cases hlt : i < L
      · have hlt' : (i : Int) < L := by omega
        obtain ⟨e, he⟩ : ∃ e, E[i]? = some e := ⟨_, List.getElem?_eq_getElem (by rw [HL.out]; exact hlt)⟩
        have hDD := HD.out.below HQ.out.b
        have x0 := hDD.cell he (t := 0) rfl
        have x1 := hDD.cell he (t := 1) rfl
        have x2 := hDD.cell he (t := 2) rfl
        have x3 := hDD.cell he (t := 3) rfl
        have x4 := hDD.cell he (t := 4) rfl
        have x5 := hDD.cell he (t := 5) rfl
        have x6 := hDD.cell he (t := 6) rfl
        have x7 := hDD.cell he (t := 7) rfl
        rw [Nat.add_zero] at x0
        have hok : e.1.ok := hDD.ok e.1 (List.mem_map.2 ⟨e, List.mem_of_getElem? he, rfl⟩)
        have hf := hok.fits
        have hat := Arn.at_take hDD.ok (items_at he)
        have hlt2 := Arn.at_lt hDD.ok hat.1
        have hfit := hDD.fit
        have hlim := hDD.lim
        have hen : en ≤ 268435456 := by rw [← HQ.out.en]; exact HCS.out i
        have hll : e.1.lits.length ≤ 268435456 := by omega
        clear hok hf hat hlt2 hfit hlim hDD
        cases hdd : e.1.dead
        · rw [hdd] at x7
          obtain ⟨g1, d1, B1, g2, d2, B2, V, V2, g3, d3, B3, r1, r2, hB2, hV, hxV, hV2, hxV2, r3, o1, o2, o3, hap, hbb⟩ := col_step (p := (Arn.size ((items E).take i) : Nat)) (rm := (e.1.room : Nat)) (id := e.1.id) (en := en) (ln := 4 + (e.1.lits.length : Nat)) (lbd := e.1.lbd) (used := e.1.used) (la := e.2.1) (L := e.1.lits.length) (cap := e.2.2) (red := e.1.red) HQ.out.b.size (by omega) HQ.out.f HQ.out.t HQ.out.l HQ.out.ap
          have HQ2 := hid (HQ.out.step he hdd rfl (xs := [.int .i64 en, .int .i64 (4 + (e.1.lits.length : Nat)), .int .i64 e.1.id, .slice e.2.1 e.1.lits.length e.2.2, .bool e.1.red, .int .i64 e.1.lbd, .int .i64 e.1.used, .bool false]) (by
            simp only [icell, tightE, Arn.It.tight, hdd]
            rw [show ((4 + e.1.lits.length : Nat) : Int) = 4 + (e.1.lits.length : Nat) by omega]) o1 o2 o3 hap hbb)
          have y0 := row_cell hB2 0
          have y0f := row_frozen hB2 0
          have y1 := row_cell hxV 1
          have y1f := row_frozen hxV 1
          have y3 := row_cell hxV 3
          have z0 := row_cell hxV2 0
          have z1 := row_cell hxV2 1
          have z2 := row_cell hxV2 2
          have z3 := row_cell hxV2 3
          have z4 := row_cell hxV2 4
          have z5 := row_cell hxV2 5
          have z6 := row_cell hxV2 6
          have z7 := row_cell hxV2 7
          simp only [List.getElem?_toArray, List.getElem?_cons_zero, List.getElem?_cons_succ] at y0 y1 y3 z0 z1 z2 z3 z4 z5 z6 z7
          have R1 := hid r1
          have R2 := hid r2
          have R3 := hid r3
          clear hdd o1 o2 o3 hap hbb hB2 hxV hxV2 r1 r2 r3 he HD HDN HCS HBK HQ
          generalize Arn.size ((items E).take i) = ps at *
          generalize e.1.lits.length = ll at *
          generalize e.1.room = rm at *
          generalize e.1.id = id at *
          generalize e.1.lbd = lbd at *
          generalize e.1.used = used at *
          generalize e.1.red = red at *
          generalize e.2.1 = la at *
          generalize e.2.2 = cap at *
          go_wp2_with (at_builtin; first | refine wpList_append_run rfl (.tmp 28) (.tmp 31) 59 59 rfl rfl rfl R1.out ?_ | refine wpList_append_run rfl (.tmp 33) (.tmp 35) 59 59 rfl rfl rfl R2.out ?_ | refine wpList_append_run rfl (.tmp 48) (.tmp 50) 70 70 rfl rfl rfl R3.out ?_)
          go_roundw
          case rel => exact ⟨i + 1, k + 1, d1, d2, d3, en + (4 + ll), _, _, _, by omega, by omega, rfl, rfl, rfl, by go_num, by go_num, HQ2⟩
          case measure => simp [intOf]; omega
        · rw [hdd] at x7
          have HQ2 := hid (fun o9 => HQ.out.skip he hdd (below_box wr o9))
          clear hdd he HQ
          generalize Arn.size ((items E).take i) = ps at *
          generalize e.1.lits.length = ll at *
          generalize e.1.room = rm at *
          generalize e.1.id = id at *
          generalize e.1.lbd = lbd at *
          generalize e.1.used = used at *
          generalize e.1.red = red at *
          generalize e.2.1 = la at *
          generalize e.2.2 = cap at *
          go_wp2
          go_roundw
          case rel => exact ⟨i + 1, k, fc, tc, lc, en, fo, to, lo, by omega, by omega, rfl, rfl, rfl, rfl, by go_num, hid (HQ2.out _)⟩
          case measure => simp [intOf]; omega
      · have hge : ¬ (i : Int) < L := by omega
        obtain rfl : i = L := by omega
        have HO := hid (HDN.out _ _ _ _ _ _ _ _ _ HQ.out en rfl)
        clear HQ HDN
        go_wp2
        go_ret2
        exact HO.out
end Go.Proofs.Ytblogmelmpkfhaa
