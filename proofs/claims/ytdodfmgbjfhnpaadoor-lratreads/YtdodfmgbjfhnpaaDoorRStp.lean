/- A line's step, by the document. -/
import Derived.Test.YtdodfmgbjfhnpaaDoorSX
import Derived.Deep.RegionHeld3
namespace Lra
theorem numL_range {w : List Int} {n : Int} (h : numL w = some n) : -4611686018427387903 ≤ n ∧ n ≤ 4611686018427387903 := by
  have hT : ∀ d neg, numT d neg = some n → -4611686018427387903 ≤ n ∧ n ≤ 4611686018427387903 := by
    intro d neg h
    unfold numT at h
    split at h
    · cases h
    · next hc =>
      simp at hc h
      rw [← h]
      have := hc.2
      cases neg <;> simp <;> omega
  have hD : ∀ d neg, numD d neg = some n → -4611686018427387903 ≤ n ∧ n ≤ 4611686018427387903 := by
    intro d neg h
    unfold numD at h
    split at h
    · cases h
    · exact hT d neg h
  unfold numL at h
  split at h
  · exact hD _ _ h
  · exact hD _ _ h
end Lra
namespace Go.Proofs.YtdodfmgbjfhnpaaDoor
open Go.RowKit
set_option linter.unusedVariables false
set_option linter.unusedSimpArgs false

theorem ints_eq_list (S : ByteArray) (l : List UInt8) : Lra.ints S = Lra.I l ↔ S.toList = l := by
  rw [toL]
  constructor
  · intro h; exact Lra.I_inj h
  · intro h; unfold Lra.ints; rw [h]; rfl
theorem is48 (S : ByteArray) : (S.toList == [48]) = decide (Lra.ints S = [48]) := by
  have this : Lra.ints S = [48] ↔ S.toList = [48] := ints_eq_list S [48]
  by_cases h : S.toList = [48]
  · rw [h, decide_eq_true (this.2 h)]; rfl
  · rw [decide_eq_false (fun e => h (this.1 e))]; simpa using h
theorem is100 (S : ByteArray) : (S.toList == [100]) = decide (Lra.ints S = [100]) := by
  have this : Lra.ints S = [100] ↔ S.toList = [100] := ints_eq_list S [100]
  by_cases h : S.toList = [100]
  · rw [h, decide_eq_true (this.2 h)]; rfl
  · rw [decide_eq_false (fun e => h (this.1 e))]; simpa using h

theorem load_row43 (W : World) {b : Nat} {x y z u : Value} {t : TypeId} (h : W.heap[b]? = some (.cells #[x, y, z, u] t (0, 0))) : (loadVar 43 ⟨b, 0, none⟩).run Tryd.prog W = .ok (.agg #[x, y, z, u]) W :=
  run_loadVar_row W b t 43 #[x, y, z, u] (0, 0) _ h Tryd.underlying43 rfl (by kernel_rfl)
theorem results_cell_tmp2 {P : Program} {fn : Func} {p u : Tmp} {t : TypeId} (h : fn.results = #[.cell p t, .tmp u]) (tmps : Array Value) (w : World) {ap : Addr} {x : Value} (hp : tmps.getD p undef = .pointer (some ap)) (hx : (loadVar t ap).run P w = .ok x w) : (results fn tmps).run P w = .ok (.tuple #[x, tmps.getD u undef]) w := by
  simp only [results, h, List.mapM_toArray]
  simp only [Array.getD_eq_getD_getElem?] at hp
  simp [Sem.run_bind, Result.andThen, hp, asAddr, hx]
theorem two_words (ws : List ByteArray) (h : 2 ≤ ws.length) : ws.map Lra.ints = Lra.ints ws[0] :: Lra.ints ws[1] :: (ws.map Lra.ints).drop 2 := by
  match ws, h with
  | a :: b :: t, _ => rfl
theorem drop_word (ws : List ByteArray) (i : Nat) (h : i < ws.length) : (ws.map Lra.ints).drop i = Lra.ints ws[i] :: (ws.map Lra.ints).drop (i + 1) := by
  rw [List.drop_eq_getElem_cons (by simpa using h), List.getElem_map]
theorem keep_step {A : World} {rb n : Nat} (v0 v1 v2 v3 : Value) (hne : rb ≠ n) {q2 q3 q4 q5 : Option Value} (h : A.cell? ⟨rb, 0, none⟩ = q2 ∧ A.cell? ⟨rb, 1, none⟩ = q3 ∧ A.cell? ⟨rb, 2, none⟩ = q4 ∧ A.cell? ⟨rb, 3, none⟩ = q5) :
    ((((A.setCell ⟨n, 0, none⟩ v0).setCell ⟨n, 1, none⟩ v1).setCell ⟨n, 2, none⟩ v2).setCell ⟨n, 3, none⟩ v3).cell? ⟨rb, 0, none⟩ = q2 ∧ ((((A.setCell ⟨n, 0, none⟩ v0).setCell ⟨n, 1, none⟩ v1).setCell ⟨n, 2, none⟩ v2).setCell ⟨n, 3, none⟩ v3).cell? ⟨rb, 1, none⟩ = q3 ∧ ((((A.setCell ⟨n, 0, none⟩ v0).setCell ⟨n, 1, none⟩ v1).setCell ⟨n, 2, none⟩ v2).setCell ⟨n, 3, none⟩ v3).cell? ⟨rb, 2, none⟩ = q4 ∧ ((((A.setCell ⟨n, 0, none⟩ v0).setCell ⟨n, 1, none⟩ v1).setCell ⟨n, 2, none⟩ v2).setCell ⟨n, 3, none⟩ v3).cell? ⟨rb, 3, none⟩ = q5 := by
  have hk : ∀ k, ((((A.setCell ⟨n, 0, none⟩ v0).setCell ⟨n, 1, none⟩ v1).setCell ⟨n, 2, none⟩ v2).setCell ⟨n, 3, none⟩ v3).cell? ⟨rb, k, none⟩ = A.cell? ⟨rb, k, none⟩ := fun k =>
    World.cell?_of_block (w := A) (a := ⟨rb, k, none⟩) ((heap_other _ _ hne).trans ((heap_other _ _ hne).trans ((heap_other _ _ hne).trans (heap_other _ _ hne))))
  rw [hk 0, hk 1, hk 2, hk 3]
  exact h
/-- The ways that a line's words can go. -/
inductive Ways (ws : List ByteArray) : Prop where
  | bad (h0 : 0 < ws.length) (hn : Lra.numL (Lra.ints ws[0]) = none) (hr : Lra.stepW (ws.map Lra.ints) = none)
  | short (h0 : ws.length = 1) (id : Int) (hn : Lra.numL (Lra.ints ws[0]) = some id) (hr : Lra.stepW (ws.map Lra.ints) = none)
  | open_ (m : Nat) (h0 : ws.length = m + 2) (id : Int) (hn : Lra.numL (Lra.ints ws[0]) = some id) (hl : (ws[m + 1].toList == [48]) = false) (hr : Lra.stepW (ws.map Lra.ints) = none)
  | del (m : Nat) (h0 : ws.length = m + 3) (id : Int) (hn : Lra.numL (Lra.ints ws[0]) = some id) (hl : Lra.ints ws[m + 2] = [48]) (hd : (ws[1].toList == [100]) = true) (hd0 : Lra.ints ws[1] = [100])
  | add (m : Nat) (h0 : ws.length = m + 2) (id : Int) (hn : Lra.numL (Lra.ints ws[0]) = some id) (hl : Lra.ints ws[m + 1] = [48]) (hd : (ws[1].toList == [100]) = false) (hd0 : Lra.ints ws[1] ≠ [100])
theorem ways (ws : List ByteArray) (h : ws ≠ []) : Ways ws := by
  have h0 : 0 < ws.length := List.length_pos_iff.2 h
  cases hn : Lra.numL (Lra.ints ws[0]) with
  | none =>
    refine .bad h0 hn ?_
    cases ws with
    | nil => exact absurd rfl h
    | cons w ws =>
      rw [List.map_cons, Lra.stepW]
      have : Lra.numL (Lra.ints w) = none := hn
      rw [this]
  | some id =>
    by_cases h1 : ws.length = 1
    · refine .short h1 id hn ?_
      cases hs : Lra.stepW (ws.map Lra.ints) with
      | none => rfl
      | some x => have := (Lra.stepW_last hs).2; simp at this; omega
    · obtain ⟨m, hm⟩ : ∃ m, ws.length = m + 2 := ⟨ws.length - 2, by omega⟩
      have hlast : (ws.map Lra.ints).getLast? = some (Lra.ints ws[m + 1]) := by
        have e : ws.length - 1 = m + 1 := by omega
        rw [List.getLast?_eq_getElem?, List.length_map, e, List.getElem?_map, List.getElem?_eq_getElem (by omega)]
        rfl
      by_cases hl : Lra.ints ws[m + 1] = [48]
      · by_cases hd : Lra.ints ws[1] = [100]
        · cases m with
          | zero => rw [hd] at hl; cases hl
          | succ m => exact .del m hm id hn hl (by rw [is100, decide_eq_true hd]) hd
        · exact .add m hm id hn hl (by rw [is100, decide_eq_false hd]) hd
      · refine .open_ m hm id hn (by rw [is48, decide_eq_false hl]) ?_
        cases hs : Lra.stepW (ws.map Lra.ints) with
        | none => rfl
        | some x =>
          have := (Lra.stepW_last hs).1
          rw [hlast] at this
          exact absurd (Option.some.inj this) hl

set_option maxRecDepth 100000 in
set_option maxHeartbeats 8000000 in
theorem step30 (S : ByteArray) (w : World) (hS : S.size ≤ 1000000) : Calls Tryd.prog 30 #[.string S] w fun e w' => RStepOut w (Lra.stepW (Lra.cutAll 32 (Lra.ints S))) e w' := by
  have C54 := hid (words54 S (w.alloc (.cells #[.int .u8 0, .int .i64 0, .slice none 0 0, .slice none 0 0] 43)) hS)
  have hr0 := heap_alloc_new w (.cells #[.int .u8 0, .int .i64 0, .slice none 0 0, .slice none 0 0] 43)
  have hbx := below_box w (.cells #[.int .u8 0, .int .i64 0, .slice none 0 0, .slice none 0 0] 43)
  have hvs : (w.alloc (.cells #[.int .u8 0, .int .i64 0, .slice none 0 0, .slice none 0 0] 43)).heap.size = w.heap.size + 1 := by simp
  have HV := hid (And.intro hr0 (And.intro hbx hvs))
  clear hr0 hbx hvs
  obtain ⟨L, hL⟩ : ∃ L, Lra.cutAll 32 (Lra.ints S) = L := ⟨_, rfl⟩
  have HLne := hid (show L ≠ [] by rw [← hL]; exact Lra.cutAll_ne 32 _)
  have HLn := hid (show L.length ≤ 1000001 by
    have := Lra.cutAll_len 32 (Lra.ints S)
    rw [Lra.ints_len, hL] at this
    omega)
  unfold WordsOut at C54
  rw [hL] at C54 ⊢
  clear hL
  go_enter Tryd.func30, Tryd.ntmps30
  go_wp2_with (fail)
  refine C54.out.mono ?_
  clear C54
  rintro e W1 ⟨ws, v, rfl, hws, hsz, ho, hb⟩
  have hwn : ws ≠ [] := fun e => HLne.out (by rw [← hws, e]; rfl)
  have hnn : ws.length ≤ 1000001 := by have := HLn.out; rw [← hws, List.length_map] at this; exact this
  obtain ⟨g, c, hv, hc0⟩ : ∃ g c, v = .slice (some ⟨g, 0, none⟩) ws.length c ∧ ∀ (j : Nat) (hj : j < ws.length), W1.cell? ⟨g, j, none⟩ = some (.string ws[j]) := by
    rcases ho.2 with ⟨_, h0⟩ | ⟨g, c, cur, e, _⟩
    · exact absurd (List.eq_nil_of_length_eq_zero h0) hwn
    · refine ⟨g, c, e, fun j hj => ?_⟩
      have := ho.cells (g := g) (by rw [e]; rfl) j (.string ws[j]) (by rw [List.getElem?_map, List.getElem?_eq_getElem hj]; rfl)
      rwa [Go.WideShapes.add_plain, Nat.zero_add] at this
  subst hv
  obtain ⟨N, hN⟩ : ∃ N, ws.length = N := ⟨_, rfl⟩
  have HO := hid ho
  rw [hN]
  rw [hN] at hnn
  have N55 := fun (j : Nat) (hj : j < ws.length) (W : World) => number55 ws[j] W (by have := hsz _ (List.getElem_mem hj); omega)
  have h1 : W1.heap[w.heap.size]? = some (.cells #[.int .u8 0, .int .i64 0, .slice none 0 0, .slice none 0 0] 43 (0, 0)) := (hb.block _ (by rw [HV.out.2.2]; omega)).trans HV.out.1
  have HB1 := hid (show Below w.heap.size w W1 from HV.out.2.1.trans (hb.mono (by rw [HV.out.2.2]; omega)))
  have r0 := row_cell h1 0
  have r1 := row_cell h1 1
  have r2 := row_cell h1 2
  have r3 := row_cell h1 3
  simp only [List.getElem?_toArray, List.getElem?_cons_zero, List.getElem?_cons_succ] at r0 r1 r2 r3
  have f0 := row_frozen h1 0
  have f1 := row_frozen h1 1
  have f2 := row_frozen h1 2
  have f3 := row_frozen h1 3
  have H1 := hid h1
  clear h1
  have x0 := hc0 0 (List.length_pos_iff.2 hwn)
  have hw1 : w.heap.size < W1.heap.size := by have := hb.size; rw [HV.out.2.2] at this; omega
  rcases ways ws hwn with ⟨h0, hn, hr⟩ | ⟨h0, id, hn, hr⟩ | ⟨m, h0, id, hn, hl, hr⟩ | ⟨m, h0, id, hn, hl, hd, hd0⟩ | ⟨m, h0, id, hn, hl, hd, hd0⟩
  · have K55 := N55 0 h0
    unfold NumOut at K55
    rw [hn] at K55
    have HK := hid K55
    rw [hws] at hr
    have HR := hid hr
    have hpos : (0 : Int) < N := by omega
    generalize ws[0] = y0 at x0 HK
    clear K55 hws hsz ho hb hc0 N55 hn hr HV HO
    go_wp2_with (go_at_call 55; refine (HK.out _).mono ?_; rintro e W ⟨rfl, rfl⟩)
    refine bodyPost_ret (results_cell_tmp2 rfl _ _ rfl (load_row43 _ (heap_set_row (heap_set_row (heap_set_row (heap_set_row H1.out _) _) _) _))) rfl ?_
    exact .inl ⟨HR.out, 0, 0, .slice none 0 0, .slice none 0 0, rfl, ⟨_, _, _, rfl⟩, ⟨_, _, _, rfl⟩, ((((HB1.out.setCell (p := ⟨w.heap.size, 0, none⟩) (Nat.le_refl _) _).setCell (p := ⟨w.heap.size, 1, none⟩) (Nat.le_refl _) _).setCell (p := ⟨w.heap.size, 2, none⟩) (Nat.le_refl _) _).setCell (p := ⟨w.heap.size, 3, none⟩) (Nat.le_refl _) _)⟩
  · have K55 := N55 0 (by omega)
    unfold NumOut at K55
    rw [hn] at K55
    have HK := hid K55
    rw [hws] at hr
    have HR := hid hr
    obtain rfl : N = 1 := by omega
    generalize ws[0] = y0 at x0 HK
    clear K55 hws hsz ho hb hc0 N55 hn hr HV HO
    go_wp2_with (go_at_call 55; refine (HK.out _).mono ?_; rintro e W ⟨rfl, rfl⟩)
    refine bodyPost_ret (results_cell_tmp2 rfl _ _ rfl (load_row43 _ (heap_set_row (heap_set_row (heap_set_row (heap_set_row H1.out _) _) _) _))) rfl ?_
    exact .inl ⟨HR.out, 0, 0, .slice none 0 0, .slice none 0 0, rfl, ⟨_, _, _, rfl⟩, ⟨_, _, _, rfl⟩, ((((HB1.out.setCell (p := ⟨w.heap.size, 0, none⟩) (Nat.le_refl _) _).setCell (p := ⟨w.heap.size, 1, none⟩) (Nat.le_refl _) _).setCell (p := ⟨w.heap.size, 2, none⟩) (Nat.le_refl _) _).setCell (p := ⟨w.heap.size, 3, none⟩) (Nat.le_refl _) _)⟩
  · have K55 := N55 0 (by omega)
    unfold NumOut at K55
    rw [hn] at K55
    have HK := hid K55
    rw [hws] at hr
    have HR := hid hr
    obtain rfl : N = m + 2 := by omega
    have x1 := hc0 (m + 1) (by omega)
    generalize ws[m + 1] = y1 at x1 hl
    generalize ws[0] = y0 at x0 HK
    clear K55 hws hsz ho hb hc0 N55 hn hr HV HO
    go_wp2_with (go_at_call 55; refine (HK.out _).mono ?_; rintro e W ⟨rfl, rfl⟩)
    refine bodyPost_ret (results_cell_tmp2 rfl _ _ rfl (load_row43 _ (heap_set_row (heap_set_row (heap_set_row (heap_set_row H1.out _) _) _) _))) rfl ?_
    exact .inl ⟨HR.out, 0, 0, .slice none 0 0, .slice none 0 0, rfl, ⟨_, _, _, rfl⟩, ⟨_, _, _, rfl⟩, ((((HB1.out.setCell (p := ⟨w.heap.size, 0, none⟩) (Nat.le_refl _) _).setCell (p := ⟨w.heap.size, 1, none⟩) (Nat.le_refl _) _).setCell (p := ⟨w.heap.size, 2, none⟩) (Nat.le_refl _) _).setCell (p := ⟨w.heap.size, 3, none⟩) (Nat.le_refl _) _)⟩
  · have K55 := N55 0 (by omega)
    unfold NumOut at K55
    rw [hn] at K55
    have HK := hid K55
    have HNN := hid hN
    obtain rfl : N = m + 3 := by omega
    have x1 := hc0 1 (by omega)
    have x2 := hc0 (m + 2) (by omega)
    have hl48 : (ws[m + 2].toList == [48]) = true := by rw [is48, decide_eq_true hl]
    have HN5 := hid N55
    have HWS := hid hws
    have HHL := hid hl
    have hLd : L.drop 2 ≠ [] := by rw [← hws]; intro e; have := congrArg List.length e; simp at this; omega
    have hL2 : L = Lra.ints ws[0] :: [100] :: L.drop 2 := by
      have := two_words ws (by omega)
      rw [hws, hd0] at this
      exact this
    have HST := hid (show ∀ hs : List Int, Lra.tailW Lra.added (L.drop 2) = (if hs.all Lra.added = true then some hs else none) → Lra.stepW L = if Lra.may ⟨2, id, [], hs⟩ = true then some ⟨2, id, [], hs⟩ else none from fun hs ht => by
      have e := hL2
      rw [e]
      exact Lra.del_may id hs _ _ hn hLd ht)
    have HID := hid (Lra.numL_range hn)
    have HSN := hid (show Lra.tailW Lra.added (L.drop 2) = none → Lra.stepW L = none from fun ht => by
      have e := hL2
      rw [e, Lra.stepW_two _ _ _ _ hn, if_pos (c := [100] = [100] ∧ L.drop 2 ≠ []) ⟨rfl, hLd⟩, Lra.delW_tail, ht]
      split <;> rfl)
    -- what is made
    have hsx : SX w.heap.size W1.heap.size w (W1.alloc (.cells #[.int .u8 2, .int .i64 id, .slice none 0 0, .slice none 0 0] 43)) ws (.slice (some ⟨g, 0, none⟩) ws.length c) 2 id [] [] (.slice none 0 0) (.slice none 0 0) := by
      have hbb := below_box W1 (.cells #[.int .u8 2, .int .i64 id, .slice none 0 0, .slice none 0 0] 43)
      exact ⟨heap_alloc_new _ _, World.ownsRow_nil _ _ _ _, World.ownsRow_nil _ _ _ _, own_below (by have := HO.out; rw [HV.out.2.2] at this; exact this) hbb, (hbb.block _ hw1).trans H1.out, HB1.out.trans (hbb.mono (by omega)), hw1⟩
    rw [hN] at hsx
    have HSX := hid hsx
    have x1a : (W1.alloc (.cells #[.int .u8 1, .int .i64 id, .slice none 0 0, .slice none 0 0] 43)).cell? ⟨g, 1, none⟩ = some (.string ws[1]) := ((below_box W1 (.cells #[.int .u8 1, .int .i64 id, .slice none 0 0, .slice none 0 0] 43)).cell (p := ⟨g, 1, none⟩) (cell_lt x1)).trans x1
    generalize hy2 : ws[m + 2] = y2 at x2 hl48
    generalize hy1 : ws[1] = y1 at x1 hd x1a
    generalize hy0 : ws[0] = y0 at x0 HK
    clear K55 hws hsz ho hb hc0 N55 hn HV HO hl hd0 hLd hsx hy0 hy1 hy2 hN hL2

    go_wp2_with (go_at_call 55; refine (HK.out _).mono ?_; rintro e W ⟨rfl, rfl⟩)
    clear HK x0 x1 x2 x1a r0 r1 r2 r3 f0 f1 f2 f3 H1 HB1
    have HNZ := hid (show m + 3 ≤ 1000001 from hnn)
    obtain ⟨xb, hxb⟩ : ∃ xb, W.heap.size = xb := ⟨_, rfl⟩
    rw [hxb] at HSX hw1 ⊢
    go_loopw [11, 12, 13] (fun iv _ _ wr => ∃ (i : Nat) (hs : List Int) (hv : Value), iv = .int .i64 i ∧ 2 ≤ i ∧ i + 1 ≤ m + 3 ∧ hs.length ≤ i ∧ Hid (∀ x ∈ hs, -4611686018427387903 ≤ x ∧ x ≤ 4611686018427387903) ∧ Hid (Lra.tailW Lra.added (L.drop 2) = Lra.tailAt Lra.added hs (L.drop i)) ∧ Hid (SX w.heap.size xb w wr ws (.slice (some ⟨g, 0, none⟩) (m + 3) c) 2 id [] hs (.slice none 0 0) hv)) (fun iv _ _ _ => m + 3 - (intOf iv).toNat)
    case atStart => exact ⟨2, [], .slice none 0 0, by rfl, Nat.le_refl _, by omega, Nat.zero_le _, hid (fun x hx => by cases hx), hid (by rw [Lra.tailAt_nil]), HSX⟩
    case round =>
      clear HSX
      obtain ⟨i, hs, hv, rfl, hi2, hiN, hhl, HHR, HT, HX⟩ := hrel
      obtain ⟨ho2, hc2, hvv⟩ := own_slc HX.out.ho
      subst hvv
      by_cases hlt : i + 1 < m + 3
      · have hlt' : (i : Int) + 1 < ((m + 3 : Nat) : Int) := by omega
        have hiw : i < ws.length := by rw [HNN.out]; omega
        have hdr : L.drop i = Lra.ints ws[i] :: L.drop (i + 1) := by have := drop_word ws i hiw; rw [HWS.out] at this; exact this
        have hdn : L.drop (i + 1) ≠ [] := by
          intro e
          have h1 := congrArg List.length e
          have h2 : L.length = ws.length := by rw [← HWS.out, List.length_map]
          rw [List.length_drop, h2, HNN.out] at h1
          simp at h1
          omega
        obtain ⟨g', c', hgc, xi⟩ := HX.out.word hiw
        rw [HNN.out] at hgc
        injection hgc with hg1 _ hg3
        injection hg1 with hg1
        injection hg1 with hg1
        subst hg1 hg3
        have K := HN5.out i hiw
        rw [hdr] at HT
        generalize ws[i] = yi at xi K HT
        unfold NumOut at K
        have hin : (i : Int) < ((m + 3 : Nat) : Int) := by omega
        cases hni : Lra.numL (Lra.ints yi) with
        | none =>
          rw [hni] at K
          have HKi := hid K
          have HR := hid (HSN.out (by rw [HT.out, Lra.tailAt_none _ _ _ _ hni]))
          have hX := HX.out
          have r0 := row_cell hX.r0 0
          have r1 := row_cell hX.r0 1
          have r2 := row_cell hX.r0 2
          have r3 := row_cell hX.r0 3
          simp only [List.getElem?_toArray, List.getElem?_cons_zero, List.getElem?_cons_succ] at r0 r1 r2 r3
          have f0 := row_frozen hX.r0 0
          have f1 := row_frozen hX.r0 1
          have f2 := row_frozen hX.r0 2
          have f3 := row_frozen hX.r0 3
          clear K hX HT hni hdr hdn
          go_wp2_with (go_at_call 55; refine (HKi.out _).mono ?_; rintro e W9 ⟨rfl, rfl⟩)
          refine bodyPost_ret (results_cell_tmp2 rfl _ _ rfl (load_row43 _ (heap_set_row (heap_set_row (heap_set_row (heap_set_row HX.out.r0 _) _) _) _))) rfl ?_
          exact .inl ⟨HR.out, 0, 0, .slice none 0 0, .slice none 0 0, rfl, ⟨_, _, _, rfl⟩, ⟨_, _, _, rfl⟩, ((((HX.out.bw.setCell (p := ⟨w.heap.size, 0, none⟩) (Nat.le_refl _) _).setCell (p := ⟨w.heap.size, 1, none⟩) (Nat.le_refl _) _).setCell (p := ⟨w.heap.size, 2, none⟩) (Nat.le_refl _) _).setCell (p := ⟨w.heap.size, 3, none⟩) (Nat.le_refl _) _)⟩
        | some x =>
          rw [hni] at K
          have HKi := hid K
          have HT2 := hid (show Lra.tailW Lra.added (L.drop 2) = Lra.tailAt Lra.added (hs ++ [x]) (L.drop (i + 1)) by rw [HT.out, Lra.tailAt_step _ rfl _ _ _ _ hni hdn])
          obtain ⟨o5, c5, B, hr5, hrb, hX5⟩ := HX.out.hint (by omega) x
          have q3 := row_cell HX.out.bx 3
          have q4 := row_cell (hrb.trans HX.out.bx) 3
          simp only [List.getElem?_toArray, List.getElem?_cons_zero, List.getElem?_cons_succ] at q3 q4
          have q5 := row_frozen (hrb.trans HX.out.bx) 3
          have HAP := hid hr5
          have HX5 := hid hX5
          have hhl5 : (hs ++ [x]).length ≤ i + 1 := by simp; omega
          have HHL5 := hid hhl5
          have HHR5 := hid (show ∀ y ∈ hs ++ [x], -4611686018427387903 ≤ y ∧ y ≤ 4611686018427387903 from fun y hy => by
            rcases List.mem_append.1 hy with hy | hy
            · exact HHR.out y hy
            · simp at hy; rw [hy]; exact Lra.numL_range hni)
          clear K hni hdr hdn hr5 hrb hX5 hhl5
          go_wp2_with (first
            | (go_at_call 55; refine (HKi.out _).mono ?_; rintro e W9 ⟨rfl, rfl⟩)
            | (at_builtin; refine wpList_append_run rfl (.tmp 113) (.tmp 115) 41 41 rfl rfl rfl HAP.out ?_; clear HAP))
          go_roundw
          case rel => exact ⟨i + 1, hs ++ [x], _, by go_num, by omega, by omega, HHL5.out, HHR5, HT2, HX5⟩
          case measure => simp [intOf]; omega
      · have hlt' : ¬ (i : Int) + 1 < ((m + 3 : Nat) : Int) := by omega
        have hie : i + 1 = m + 3 := by omega
        have hiw : i < ws.length := by rw [HNN.out]; omega
        have hdr : L.drop i = [[48]] := by
          have h1 := drop_word ws i hiw
          rw [HWS.out] at h1
          have h2 : L.drop (i + 1) = [] := List.drop_eq_nil_of_le (by rw [← HWS.out, List.length_map, HNN.out]; omega)
          have h3 : Lra.ints ws[i] = [48] := by
            have h4 := HHL.out
            have h5 : m + 2 = i := by omega
            simp only [h5] at h4
            exact h4
          rw [h1, h2, h3]
        rw [hdr, Lra.tailAt_last] at HT
        have HF := hid (HST.out hs HT.out)
        have hX := HX.out
        obtain ⟨lo1, lc1, hlv⟩ := own_slc hX.lo
        have hst : ∀ W', Below wr.heap.size wr W' → StpV W' lo1 ho2 ⟨2, id, [], hs⟩ := fun W' hb' => by
          have h1 := own_below hX.lo hb'
          have h2 := own_below hX.ho hb'
          rw [hlv] at h1
          exact ⟨own_row h1 (fun x hx => by cases hx), own_row h2 (fun x hx => by have := HHR.out x hx; omega), by simp only; decide, by have := HID.out; simp only; omega, ⟨(by simp), by have h9 := HNZ.out; simp only; omega⟩⟩
        have hcell : ∀ W', Below wr.heap.size wr W' → W'.cell? ⟨xb, 0, none⟩ = some (.int .u8 2) ∧ W'.cell? ⟨xb, 1, none⟩ = some (.int .i64 id) ∧ W'.cell? ⟨xb, 2, none⟩ = some (.slice none 0 0) ∧ W'.cell? ⟨xb, 3, none⟩ = some (.slice ho2 hs.length hc2) := fun W' hb' => by
          have h1 := (hb'.block _ hX.size).trans hX.bx
          exact ⟨by rw [row_cell h1]; rfl, by rw [row_cell h1]; rfl, by rw [row_cell h1]; rfl, by rw [row_cell h1]; rfl⟩
        have hr : ∀ W', Below wr.heap.size wr W' → W'.heap[w.heap.size]? = some (.cells #[.int .u8 0, .int .i64 0, .slice none 0 0, .slice none 0 0] 43 (0, 0)) := fun W' hb' => (hb'.block _ (Nat.lt_trans hX.lt hX.size)).trans hX.r0
        have C24 := hid (fun (W' : World) (hb' : Below wr.heap.size wr W') => (may24 ⟨2, id, [], hs⟩ lo1 lc1 ho2 hc2 W' (hst W' hb')).mono (R' := fun e w' => e = .returned (.bool (Lra.may ⟨2, id, [], hs⟩)) ∧ Below wr.heap.size wr w') fun e w' q => ⟨q.1, hb'.trans (q.2.mono hb'.size)⟩)
        unfold sval at C24
        simp only at C24
        rw [← hlv] at C24
        have HCELL := hid hcell
        have HRR := hid hr
        have KK := hid (hcell wr.drew (Below.refl _ _).drew)
        obtain ⟨mb, hmb⟩ : ∃ mb, Lra.may ⟨2, id, [], hs⟩ = mb := ⟨_, rfl⟩
        rw [hmb] at C24 HF
        clear hX hst hcell hr hmb hdr hiw HT
        have HNE := hid (show xb ≠ w.heap.size by have := HX.out.lt; omega)
        go_wp2
        go_region_held3 (fun W' => W'.cell? ⟨xb, 0, none⟩ = some (.int .u8 2) ∧ W'.cell? ⟨xb, 1, none⟩ = some (.int .i64 id) ∧ W'.cell? ⟨xb, 2, none⟩ = some (.slice none 0 0) ∧ W'.cell? ⟨xb, 3, none⟩ = some (.slice ho2 hs.length hc2))
          (first | exact KK.out | exact HCELL.out _ hb8 | exact keep_step _ _ _ _ HNE.out (HCELL.out _ hb8))
          (first | (go_at_call 24; refine (C24.out _ ?_).mono ?_; (first | exact (Below.refl _ _).drew | exact hb8); rintro e w8 ⟨rfl, hb8⟩
                    have p0 := row_cell (HRR.out w8 hb8) 0
                    have p1 := row_cell (HRR.out w8 hb8) 1
                    have p2 := row_cell (HRR.out w8 hb8) 2
                    have p3 := row_cell (HRR.out w8 hb8) 3
                    simp only [List.getElem?_toArray, List.getElem?_cons_zero, List.getElem?_cons_succ] at p0 p1 p2 p3
                    have g0 := row_frozen (HRR.out w8 hb8) 0
                    have g1 := row_frozen (HRR.out w8 hb8) 1
                    have g2 := row_frozen (HRR.out w8 hb8) 2
                    have g3 := row_frozen (HRR.out w8 hb8) 3))
        go_wp2
        have hR := HRR.out w8 hb8
        have hXX := HX.out
        have hbn : Below w.heap.size w w8 := hXX.bw.trans (hb8.mono hXX.bw.size)
        refine bodyPost_ret (results_cell_tmp2 rfl _ _ rfl (load_row43 _ (heap_set_row (heap_set_row (heap_set_row (heap_set_row hR _) _) _) _))) rfl ?_
        have hbe := ((((hbn.setCell (p := ⟨w.heap.size, 0, none⟩) (Nat.le_refl _) (.int .u8 2)).setCell (p := ⟨w.heap.size, 1, none⟩) (Nat.le_refl _) (.int .i64 id)).setCell (p := ⟨w.heap.size, 2, none⟩) (Nat.le_refl _) (.slice none 0 0)).setCell (p := ⟨w.heap.size, 3, none⟩) (Nat.le_refl _) (.slice ho2 hs.length hc2))
        have hq : QV w.heap.size ((((w8.setCell ⟨w.heap.size, 0, none⟩ (.int .u8 2)).setCell ⟨w.heap.size, 1, none⟩ (.int .i64 id)).setCell ⟨w.heap.size, 2, none⟩ (.slice none 0 0)).setCell ⟨w.heap.size, 3, none⟩ (.slice ho2 hs.length hc2)) (⟨2, id, [], hs⟩, (.slice none 0 0), .slice ho2 hs.length hc2) := by
          have hlt3 := hXX.lt
          have h1 := own_below hXX.lo hb8
          have h2 := own_below hXX.ho hb8
          exact ⟨own_base (own_set (own_set (own_set (own_set h1 (by omega) _) (by omega) _) (by omega) _) (by omega) _) (by omega), own_base (own_set (own_set (own_set (own_set h2 (by omega) _) (by omega) _) (by omega) _) (by omega) _) (by omega)⟩
        cases mb
        · exact .inl ⟨by rw [HF.out]; rfl, _, _, _, _, rfl, ⟨_, _, _, rfl⟩, ⟨_, _, _, rfl⟩, hbe⟩
        · exact .inr ⟨⟨2, id, [], hs⟩, _, _, by rw [HF.out]; rfl, rfl, hq, hbe⟩
  · have K55 := N55 0 (by omega)
    unfold NumOut at K55
    rw [hn] at K55
    have HK := hid K55
    have HNN := hid hN
    obtain rfl : N = m + 2 := by omega
    have x1 := hc0 1 (by omega)
    have x2 := hc0 (m + 1) (by omega)
    have hl48 : (ws[m + 1].toList == [48]) = true := by rw [is48, decide_eq_true hl]
    have HN5 := hid N55
    have HWS := hid hws
    have HHL := hid hl
    have hL2 : L = Lra.ints ws[0] :: Lra.ints ws[1] :: L.drop 2 := by
      have := two_words ws (by omega)
      rw [hws] at this
      exact this
    have hL1 : L.drop 1 = Lra.ints ws[1] :: L.drop 2 := by
      have := congrArg (List.drop 1) hL2
      simpa using this
    have HID := hid (Lra.numL_range hn)
    have HSA := hid (show Lra.stepW L = if Lra.known id = true then Lra.litAt id [] (L.drop 1) else none by
      rw [hL1]
      conv => lhs; rw [hL2]
      rw [Lra.stepW_two _ _ _ _ hn, if_neg (c := Lra.ints ws[1] = [100] ∧ L.drop 2 ≠ []) (fun h => hd0 h.1), Lra.addW_lit])
    have hsx : SX w.heap.size W1.heap.size w (W1.alloc (.cells #[.int .u8 1, .int .i64 id, .slice none 0 0, .slice none 0 0] 43)) ws (.slice (some ⟨g, 0, none⟩) ws.length c) 1 id [] [] (.slice none 0 0) (.slice none 0 0) := by
      have hbb := below_box W1 (.cells #[.int .u8 1, .int .i64 id, .slice none 0 0, .slice none 0 0] 43)
      exact ⟨heap_alloc_new _ _, World.ownsRow_nil _ _ _ _, World.ownsRow_nil _ _ _ _, own_below (by have := HO.out; rw [HV.out.2.2] at this; exact this) hbb, (hbb.block _ hw1).trans H1.out, HB1.out.trans (hbb.mono (by omega)), hw1⟩
    rw [hN] at hsx
    have HSX := hid hsx
    have x1a : (W1.alloc (.cells #[.int .u8 1, .int .i64 id, .slice none 0 0, .slice none 0 0] 43)).cell? ⟨g, 1, none⟩ = some (.string ws[1]) := ((below_box W1 (.cells #[.int .u8 1, .int .i64 id, .slice none 0 0, .slice none 0 0] 43)).cell (p := ⟨g, 1, none⟩) (cell_lt x1)).trans x1
    generalize hy2 : ws[m + 1] = y2 at x2 hl48
    generalize hy1 : ws[1] = y1 at x1 hd x1a
    generalize hy0 : ws[0] = y0 at x0 HK
    clear K55 hws hsz ho hb hc0 N55 hn HV HO hl hd0 hsx hy0 hy1 hy2 hN hL2 hL1
    go_wp2_with (go_at_call 55; refine (HK.out _).mono ?_; rintro e W ⟨rfl, rfl⟩)
    clear HK x0 x1 x2 x1a r0 r1 r2 r3 f0 f1 f2 f3 H1 HB1 hl48 hd
    have HNZ := hid (show m + 2 ≤ 1000001 from hnn)
    obtain ⟨xb, hxb⟩ : ∃ xb, W.heap.size = xb := ⟨_, rfl⟩
    rw [hxb] at HSX hw1 ⊢
    go_loopw [8, 9, 10] (fun av _ _ wr => ∃ (t : Nat) (ls : List Int) (lv : Value), av = .int .i64 t ∧ 1 ≤ t ∧ t ≤ m + 2 ∧ ls.length ≤ t ∧ Hid (∀ x ∈ ls, Lra.literal x = true) ∧ Hid (Lra.litAt id [] (L.drop 1) = Lra.litAt id ls (L.drop t)) ∧ Hid (SX w.heap.size xb w wr ws (.slice (some ⟨g, 0, none⟩) (m + 2) c) 1 id ls [] lv (.slice none 0 0))) (fun av _ _ _ => m + 2 - (intOf av).toNat)
    case atStart => exact ⟨1, [], .slice none 0 0, rfl, Nat.le_refl _, by omega, by simp, hid (fun x hx => by cases hx), hid rfl, HSX⟩
    case round =>
      clear HSX
      obtain ⟨t, ls, lv, rfl, ht1, htN, hlst, HLL, HT, HX⟩ := hrel
      obtain ⟨lo2, lc2, hlv⟩ := own_slc HX.out.lo
      subst hlv
      by_cases htl : t < m + 2
      · have htl' : (t : Int) < (m : Int) + 2 := by omega
        have htw : t < ws.length := by rw [HNN.out]; exact htl
        have hdr : L.drop t = Lra.ints ws[t] :: L.drop (t + 1) := by have := drop_word ws t htw; rw [HWS.out] at this; exact this
        obtain ⟨g', c', hgc, xt⟩ := HX.out.word htw
        rw [HNN.out] at hgc
        injection hgc with hg1 _ hg3
        injection hg1 with hg1
        injection hg1 with hg1
        subst hg1 hg3
        have K := HN5.out t htw
        rw [hdr] at HT
        generalize hyt : ws[t] = yt at xt K HT
        unfold NumOut at K
        by_cases h48 : Lra.ints yt = [48]
        · have h48' : (yt.toList == [48]) = true := by rw [is48, decide_eq_true h48]
          rw [h48] at HT
          have hcore : Lra.stepW L = if Lra.added id = true then (Lra.tailW Lra.hint (L.drop (t + 1))).map (fun xs => (⟨1, id, ls, xs⟩ : Lra.Stp)) else none := by
            rw [HSA.out, HT.out, Lra.litAt_zero]
            by_cases hk : Lra.known id = true
            · rw [if_pos hk]
            · rw [if_neg hk, if_neg (fun h => hk (Lra.known_of_added h))]
          clear K
          by_cases htn : t + 1 < m + 2
          · have htn' : ¬ (m : Int) + 2 ≤ (t : Int) + 1 := by omega
            have HSF := hid (show Lra.tailW Lra.hint (L.drop (t + 1)) = none → Lra.stepW L = none from fun h => by rw [hcore, h]; split <;> rfl)
            have HSD := hid (show ∀ hs : List Int, Lra.tailW Lra.hint (L.drop (t + 1)) = (if hs.all Lra.hint = true then some hs else none) → Lra.stepW L = if Lra.may ⟨1, id, ls, hs⟩ = true then some ⟨1, id, ls, hs⟩ else none from fun hs h => Lra.add_may id ls hs (List.all_eq_true.2 HLL.out) (by rw [hcore, h]))
            have HLSN := hid hlst
            have HSX := HX
            clear hcore hdr hyt h48
            go_wp2
            go_loopw [11, 12, 13] (fun iv _ _ wr => ∃ (i : Nat) (hs : List Int) (hv : Value), iv = .int .i64 i ∧ (t + 1) ≤ i ∧ i + 1 ≤ (m + 2) ∧ hs.length ≤ i ∧ Hid (∀ x ∈ hs, -4611686018427387903 ≤ x ∧ x ≤ 4611686018427387903) ∧ Hid (Lra.tailW Lra.hint (L.drop (t + 1)) = Lra.tailAt Lra.hint hs (L.drop i)) ∧ Hid (SX w.heap.size xb w wr ws (.slice (some ⟨g, 0, none⟩) ((m + 2)) c) 1 id ls hs (.slice lo2 ls.length lc2) hv)) (fun iv _ _ _ => (m + 2) - (intOf iv).toNat)
            case atStart => exact ⟨(t + 1), [], .slice none 0 0, by go_num, Nat.le_refl _, by omega, Nat.zero_le _, hid (fun x hx => by cases hx), hid (by rw [Lra.tailAt_nil]), HSX⟩
            case round =>
              clear HSX
              obtain ⟨i, hs, hv, rfl, hi2, hiN, hhl, HHR, HT, HX⟩ := hrel
              obtain ⟨ho2, hc2, hvv⟩ := own_slc HX.out.ho
              subst hvv
              by_cases hlt : i + 1 < (m + 2)
              · have hlt' : (i : Int) + 1 < (((m + 2) : Nat) : Int) := by omega
                have hiw : i < ws.length := by rw [HNN.out]; omega
                have hdr : L.drop i = Lra.ints ws[i] :: L.drop (i + 1) := by have := drop_word ws i hiw; rw [HWS.out] at this; exact this
                have hdn : L.drop (i + 1) ≠ [] := by
                  intro e
                  have h1 := congrArg List.length e
                  have h2 : L.length = ws.length := by rw [← HWS.out, List.length_map]
                  rw [List.length_drop, h2, HNN.out] at h1
                  simp at h1
                  omega
                obtain ⟨g', c', hgc, xi⟩ := HX.out.word hiw
                rw [HNN.out] at hgc
                injection hgc with hg1 _ hg3
                injection hg1 with hg1
                injection hg1 with hg1
                subst hg1 hg3
                have K := HN5.out i hiw
                rw [hdr] at HT
                generalize ws[i] = yi at xi K HT
                unfold NumOut at K
                have hin : (i : Int) < (((m + 2) : Nat) : Int) := by omega
                cases hni : Lra.numL (Lra.ints yi) with
                | none =>
                  rw [hni] at K
                  have HKi := hid K
                  have HR := hid (HSF.out (by rw [HT.out, Lra.tailAt_none _ _ _ _ hni]))
                  have hX := HX.out
                  have r0 := row_cell hX.r0 0
                  have r1 := row_cell hX.r0 1
                  have r2 := row_cell hX.r0 2
                  have r3 := row_cell hX.r0 3
                  simp only [List.getElem?_toArray, List.getElem?_cons_zero, List.getElem?_cons_succ] at r0 r1 r2 r3
                  have f0 := row_frozen hX.r0 0
                  have f1 := row_frozen hX.r0 1
                  have f2 := row_frozen hX.r0 2
                  have f3 := row_frozen hX.r0 3
                  clear K hX HT hni hdr hdn
                  go_wp2_with (go_at_call 55; refine (HKi.out _).mono ?_; rintro e W9 ⟨rfl, rfl⟩)
                  refine bodyPost_ret (results_cell_tmp2 rfl _ _ rfl (load_row43 _ (heap_set_row (heap_set_row (heap_set_row (heap_set_row HX.out.r0 _) _) _) _))) rfl ?_
                  exact .inl ⟨HR.out, 0, 0, .slice none 0 0, .slice none 0 0, rfl, ⟨_, _, _, rfl⟩, ⟨_, _, _, rfl⟩, ((((HX.out.bw.setCell (p := ⟨w.heap.size, 0, none⟩) (Nat.le_refl _) _).setCell (p := ⟨w.heap.size, 1, none⟩) (Nat.le_refl _) _).setCell (p := ⟨w.heap.size, 2, none⟩) (Nat.le_refl _) _).setCell (p := ⟨w.heap.size, 3, none⟩) (Nat.le_refl _) _)⟩
                | some x =>
                  rw [hni] at K
                  have HKi := hid K
                  have HT2 := hid (show Lra.tailW Lra.hint (L.drop (t + 1)) = Lra.tailAt Lra.hint (hs ++ [x]) (L.drop (i + 1)) by rw [HT.out, Lra.tailAt_step _ rfl _ _ _ _ hni hdn])
                  obtain ⟨o5, c5, B, hr5, hrb, hX5⟩ := HX.out.hint (by omega) x
                  have q3 := row_cell HX.out.bx 3
                  have q4 := row_cell (hrb.trans HX.out.bx) 3
                  simp only [List.getElem?_toArray, List.getElem?_cons_zero, List.getElem?_cons_succ] at q3 q4
                  have q5 := row_frozen (hrb.trans HX.out.bx) 3
                  have HAP := hid hr5
                  have HX5 := hid hX5
                  have hhl5 : (hs ++ [x]).length ≤ i + 1 := by simp; omega
                  have HHL5 := hid hhl5
                  have HHR5 := hid (show ∀ y ∈ hs ++ [x], -4611686018427387903 ≤ y ∧ y ≤ 4611686018427387903 from fun y hy => by
                    rcases List.mem_append.1 hy with hy | hy
                    · exact HHR.out y hy
                    · simp at hy; rw [hy]; exact Lra.numL_range hni)
                  clear K hni hdr hdn hr5 hrb hX5 hhl5
                  go_wp2_with (first
                    | (go_at_call 55; refine (HKi.out _).mono ?_; rintro e W9 ⟨rfl, rfl⟩)
                    | (at_builtin; refine wpList_append_run rfl (.tmp 113) (.tmp 115) 41 41 rfl rfl rfl HAP.out ?_; clear HAP))
                  go_roundw
                  case rel => exact ⟨i + 1, hs ++ [x], _, by go_num, by omega, by omega, HHL5.out, HHR5, HT2, HX5⟩
                  case measure => simp [intOf]; omega
              · have hlt' : ¬ (i : Int) + 1 < (((m + 2) : Nat) : Int) := by omega
                have hie : i + 1 = (m + 2) := by omega
                have hiw : i < ws.length := by rw [HNN.out]; omega
                have hdr : L.drop i = [[48]] := by
                  have h1 := drop_word ws i hiw
                  rw [HWS.out] at h1
                  have h2 : L.drop (i + 1) = [] := List.drop_eq_nil_of_le (by rw [← HWS.out, List.length_map, HNN.out]; omega)
                  have h3 : Lra.ints ws[i] = [48] := by
                    have h4 := HHL.out
                    have h5 : m + 1 = i := by omega
                    simp only [h5] at h4
                    exact h4
                  rw [h1, h2, h3]
                rw [hdr, Lra.tailAt_last] at HT
                have HF := hid (HSD.out hs HT.out)
                have hX := HX.out
                obtain ⟨lo1, lc1, hlv⟩ := own_slc hX.lo
                have hst : ∀ W', Below wr.heap.size wr W' → StpV W' lo1 ho2 ⟨1, id, ls, hs⟩ := fun W' hb' => by
                  have h1 := own_below hX.lo hb'
                  have h2 := own_below hX.ho hb'
                  rw [hlv] at h1
                  exact ⟨own_row h1 (fun x hx => by have := Lra.chk_literal x (HLL.out x hx); have h8 := (Lra.literal_range x this.1).1 (HLL.out x hx); omega), own_row h2 (fun x hx => by have := HHR.out x hx; omega), by simp only; decide, by have := HID.out; simp only; omega, ⟨(by have h9 := HNZ.out; have h8 := HLSN.out; simp only; omega), by have h9 := HNZ.out; simp only; omega⟩⟩
                have hcell : ∀ W', Below wr.heap.size wr W' → W'.cell? ⟨xb, 0, none⟩ = some (.int .u8 1) ∧ W'.cell? ⟨xb, 1, none⟩ = some (.int .i64 id) ∧ W'.cell? ⟨xb, 2, none⟩ = some (.slice lo2 ls.length lc2) ∧ W'.cell? ⟨xb, 3, none⟩ = some (.slice ho2 hs.length hc2) := fun W' hb' => by
                  have h1 := (hb'.block _ hX.size).trans hX.bx
                  exact ⟨by rw [row_cell h1]; rfl, by rw [row_cell h1]; rfl, by rw [row_cell h1]; rfl, by rw [row_cell h1]; rfl⟩
                have hr : ∀ W', Below wr.heap.size wr W' → W'.heap[w.heap.size]? = some (.cells #[.int .u8 0, .int .i64 0, .slice none 0 0, .slice none 0 0] 43 (0, 0)) := fun W' hb' => (hb'.block _ (Nat.lt_trans hX.lt hX.size)).trans hX.r0
                have C24 := hid (fun (W' : World) (hb' : Below wr.heap.size wr W') => (may24 ⟨1, id, ls, hs⟩ lo1 lc1 ho2 hc2 W' (hst W' hb')).mono (R' := fun e w' => e = .returned (.bool (Lra.may ⟨1, id, ls, hs⟩)) ∧ Below wr.heap.size wr w') fun e w' q => ⟨q.1, hb'.trans (q.2.mono hb'.size)⟩)
                unfold sval at C24
                simp only at C24
                rw [← hlv] at C24
                have HCELL := hid hcell
                have HRR := hid hr
                have KK := hid (hcell wr.drew (Below.refl _ _).drew)
                obtain ⟨mb, hmb⟩ : ∃ mb, Lra.may ⟨1, id, ls, hs⟩ = mb := ⟨_, rfl⟩
                rw [hmb] at C24 HF
                clear hX hst hcell hr hmb hdr hiw HT
                have HNE := hid (show xb ≠ w.heap.size by have := HX.out.lt; omega)
                go_wp2
                go_region_held3 (fun W' => W'.cell? ⟨xb, 0, none⟩ = some (.int .u8 1) ∧ W'.cell? ⟨xb, 1, none⟩ = some (.int .i64 id) ∧ W'.cell? ⟨xb, 2, none⟩ = some (.slice lo2 ls.length lc2) ∧ W'.cell? ⟨xb, 3, none⟩ = some (.slice ho2 hs.length hc2))
                  (first | exact KK.out | exact HCELL.out _ hb8 | exact keep_step _ _ _ _ HNE.out (HCELL.out _ hb8))
                  (first | (go_at_call 24; refine (C24.out _ ?_).mono ?_; (first | exact (Below.refl _ _).drew | exact hb8); rintro e w8 ⟨rfl, hb8⟩
                            have p0 := row_cell (HRR.out w8 hb8) 0
                            have p1 := row_cell (HRR.out w8 hb8) 1
                            have p2 := row_cell (HRR.out w8 hb8) 2
                            have p3 := row_cell (HRR.out w8 hb8) 3
                            simp only [List.getElem?_toArray, List.getElem?_cons_zero, List.getElem?_cons_succ] at p0 p1 p2 p3
                            have g0 := row_frozen (HRR.out w8 hb8) 0
                            have g1 := row_frozen (HRR.out w8 hb8) 1
                            have g2 := row_frozen (HRR.out w8 hb8) 2
                            have g3 := row_frozen (HRR.out w8 hb8) 3))
                go_wp2
                have hR := HRR.out w8 hb8
                have hXX := HX.out
                have hbn : Below w.heap.size w w8 := hXX.bw.trans (hb8.mono hXX.bw.size)
                refine bodyPost_ret (results_cell_tmp2 rfl _ _ rfl (load_row43 _ (heap_set_row (heap_set_row (heap_set_row (heap_set_row hR _) _) _) _))) rfl ?_
                have hbe := ((((hbn.setCell (p := ⟨w.heap.size, 0, none⟩) (Nat.le_refl _) (.int .u8 1)).setCell (p := ⟨w.heap.size, 1, none⟩) (Nat.le_refl _) (.int .i64 id)).setCell (p := ⟨w.heap.size, 2, none⟩) (Nat.le_refl _) (.slice lo2 ls.length lc2)).setCell (p := ⟨w.heap.size, 3, none⟩) (Nat.le_refl _) (.slice ho2 hs.length hc2))
                have hq : QV w.heap.size ((((w8.setCell ⟨w.heap.size, 0, none⟩ (.int .u8 1)).setCell ⟨w.heap.size, 1, none⟩ (.int .i64 id)).setCell ⟨w.heap.size, 2, none⟩ (.slice lo2 ls.length lc2)).setCell ⟨w.heap.size, 3, none⟩ (.slice ho2 hs.length hc2)) (⟨1, id, ls, hs⟩, (.slice lo2 ls.length lc2), .slice ho2 hs.length hc2) := by
                  have hlt3 := hXX.lt
                  have h1 := own_below hXX.lo hb8
                  have h2 := own_below hXX.ho hb8
                  exact ⟨own_base (own_set (own_set (own_set (own_set h1 (by omega) _) (by omega) _) (by omega) _) (by omega) _) (by omega), own_base (own_set (own_set (own_set (own_set h2 (by omega) _) (by omega) _) (by omega) _) (by omega) _) (by omega)⟩
                cases mb
                · exact .inl ⟨by rw [HF.out]; rfl, _, _, _, _, rfl, ⟨_, _, _, rfl⟩, ⟨_, _, _, rfl⟩, hbe⟩
                · exact .inr ⟨⟨1, id, ls, hs⟩, _, _, by rw [HF.out]; rfl, rfl, hq, hbe⟩
          · have htn' : (m : Int) + 2 ≤ (t : Int) + 1 := by omega
            have HR := hid (show Lra.stepW L = none by
              have e : L.drop (t + 1) = [] := List.drop_eq_nil_of_le (by rw [← HWS.out, List.length_map, HNN.out]; omega)
              rw [hcore, e]
              split <;> rfl)
            clear hcore hdr hyt h48 HT
            have hX := HX.out
            have r0 := row_cell hX.r0 0
            have r1 := row_cell hX.r0 1
            have r2 := row_cell hX.r0 2
            have r3 := row_cell hX.r0 3
            simp only [List.getElem?_toArray, List.getElem?_cons_zero, List.getElem?_cons_succ] at r0 r1 r2 r3
            have f0 := row_frozen hX.r0 0
            have f1 := row_frozen hX.r0 1
            have f2 := row_frozen hX.r0 2
            have f3 := row_frozen hX.r0 3
            clear hX
            go_wp2
            refine bodyPost_ret (results_cell_tmp2 rfl _ _ rfl (load_row43 _ (heap_set_row (heap_set_row (heap_set_row (heap_set_row HX.out.r0 _) _) _) _))) rfl ?_
            exact .inl ⟨HR.out, 0, 0, .slice none 0 0, .slice none 0 0, rfl, ⟨_, _, _, rfl⟩, ⟨_, _, _, rfl⟩, ((((HX.out.bw.setCell (p := ⟨w.heap.size, 0, none⟩) (Nat.le_refl _) _).setCell (p := ⟨w.heap.size, 1, none⟩) (Nat.le_refl _) _).setCell (p := ⟨w.heap.size, 2, none⟩) (Nat.le_refl _) _).setCell (p := ⟨w.heap.size, 3, none⟩) (Nat.le_refl _) _)⟩
        · have h48' : (yt.toList == [48]) = false := by rw [is48, decide_eq_false h48]
          have hknone : ∀ {P : Prop}, Lra.litAt id ls (Lra.ints yt :: L.drop (t + 1)) = none → Lra.stepW L = none := fun {P} h => by
            rw [HSA.out, HT.out, h]
            split <;> rfl
          cases hni : Lra.numL (Lra.ints yt) with
          | none =>
            rw [hni] at K
            have HKi := hid K
            have HR := hid (hknone (P := True) (Lra.litAt_none _ _ _ _ hni))
            clear K hni hdr hyt h48 HT hknone
            have hX := HX.out
            have r0 := row_cell hX.r0 0
            have r1 := row_cell hX.r0 1
            have r2 := row_cell hX.r0 2
            have r3 := row_cell hX.r0 3
            simp only [List.getElem?_toArray, List.getElem?_cons_zero, List.getElem?_cons_succ] at r0 r1 r2 r3
            have f0 := row_frozen hX.r0 0
            have f1 := row_frozen hX.r0 1
            have f2 := row_frozen hX.r0 2
            have f3 := row_frozen hX.r0 3
            clear hX
            go_wp2_with (go_at_call 55; refine (HKi.out _).mono ?_; rintro e W9 ⟨rfl, rfl⟩)
            refine bodyPost_ret (results_cell_tmp2 rfl _ _ rfl (load_row43 _ (heap_set_row (heap_set_row (heap_set_row (heap_set_row HX.out.r0 _) _) _) _))) rfl ?_
            exact .inl ⟨HR.out, 0, 0, .slice none 0 0, .slice none 0 0, rfl, ⟨_, _, _, rfl⟩, ⟨_, _, _, rfl⟩, ((((HX.out.bw.setCell (p := ⟨w.heap.size, 0, none⟩) (Nat.le_refl _) _).setCell (p := ⟨w.heap.size, 1, none⟩) (Nat.le_refl _) _).setCell (p := ⟨w.heap.size, 2, none⟩) (Nat.le_refl _) _).setCell (p := ⟨w.heap.size, 3, none⟩) (Nat.le_refl _) _)⟩
          | some x =>
            rw [hni] at K
            have HKi := hid K
            have hx0 : x ≠ 0 := by
              rintro rfl
              exact h48 (by rw [Lra.numL_inv hni, Lra.W_0])
            by_cases hlit : Lra.literal x = true
            · have hxr := (Lra.literal_range x hx0).1 hlit
              have hx1 : ¬ (1048576 : Int) < x := by omega
              have hx2 : ¬ x < (-1048576 : Int) := by omega
              have hx3 : -1048576 ≤ x := hxr.1
              have hx4 : x ≤ 1048576 := hxr.2
              have HT2 := hid (show Lra.litAt id [] (L.drop 1) = Lra.litAt id (ls ++ [x]) (L.drop (t + 1)) by rw [HT.out, Lra.litAt_step _ _ _ _ _ hni hlit])
              obtain ⟨o5, c5, B, hr5, hrb, hX5⟩ := HX.out.lit (by have := HNZ.out; omega) x
              have q3 := row_cell HX.out.bx 2
              have q4 := row_cell (hrb.trans HX.out.bx) 2
              simp only [List.getElem?_toArray, List.getElem?_cons_zero, List.getElem?_cons_succ] at q3 q4
              have q5 := row_frozen (hrb.trans HX.out.bx) 2
              have HAP := hid hr5
              have HX5 := hid hX5
              have HHL5 := hid (show (ls ++ [x]).length ≤ t + 1 by simp; omega)
              have HLL5 := hid (show ∀ y ∈ ls ++ [x], Lra.literal y = true from fun y hy => by
                rcases List.mem_append.1 hy with hy | hy
                · exact HLL.out y hy
                · simp at hy; rw [hy]; exact hlit)
              clear K hni hdr hr5 hrb hX5 hyt h48 hlit hxr hknone hx0
              go_wp2_with (first
                | (go_at_call 55; refine (HKi.out _).mono ?_; rintro e W9 ⟨rfl, rfl⟩)
                | (at_builtin; refine wpList_append_run rfl (.tmp 78) (.tmp 81) 40 40 rfl rfl rfl HAP.out ?_; clear HAP))
              go_roundw
              case rel => exact ⟨t + 1, ls ++ [x], _, by go_num, by omega, by omega, HHL5.out, HLL5, HT2, HX5⟩
              case measure => simp [intOf]; omega
            · have hxr : ¬ (-1048576 ≤ x ∧ x ≤ 1048576) := fun h => hlit ((Lra.literal_range x hx0).2 h)
              have hlf : Lra.literal x = false := by cases h : Lra.literal x; rfl; exact absurd h hlit
              have HR := hid (hknone (P := True) (Lra.litAt_out _ _ _ _ _ hni h48 hlf))
              clear K hni hdr hyt h48 HT hknone hlit hlf
              have hX := HX.out
              have r0 := row_cell hX.r0 0
              have r1 := row_cell hX.r0 1
              have r2 := row_cell hX.r0 2
              have r3 := row_cell hX.r0 3
              simp only [List.getElem?_toArray, List.getElem?_cons_zero, List.getElem?_cons_succ] at r0 r1 r2 r3
              have f0 := row_frozen hX.r0 0
              have f1 := row_frozen hX.r0 1
              have f2 := row_frozen hX.r0 2
              have f3 := row_frozen hX.r0 3
              clear hX
              by_cases hx1 : 1048576 < x
              · clear hxr
                go_wp2_with (go_at_call 55; refine (HKi.out _).mono ?_; rintro e W9 ⟨rfl, rfl⟩)
                refine bodyPost_ret (results_cell_tmp2 rfl _ _ rfl (load_row43 _ (heap_set_row (heap_set_row (heap_set_row (heap_set_row HX.out.r0 _) _) _) _))) rfl ?_
                exact .inl ⟨HR.out, 0, 0, .slice none 0 0, .slice none 0 0, rfl, ⟨_, _, _, rfl⟩, ⟨_, _, _, rfl⟩, ((((HX.out.bw.setCell (p := ⟨w.heap.size, 0, none⟩) (Nat.le_refl _) _).setCell (p := ⟨w.heap.size, 1, none⟩) (Nat.le_refl _) _).setCell (p := ⟨w.heap.size, 2, none⟩) (Nat.le_refl _) _).setCell (p := ⟨w.heap.size, 3, none⟩) (Nat.le_refl _) _)⟩
              · have hx2 : x < -1048576 := by omega
                clear hxr
                go_wp2_with (go_at_call 55; refine (HKi.out _).mono ?_; rintro e W9 ⟨rfl, rfl⟩)
                refine bodyPost_ret (results_cell_tmp2 rfl _ _ rfl (load_row43 _ (heap_set_row (heap_set_row (heap_set_row (heap_set_row HX.out.r0 _) _) _) _))) rfl ?_
                exact .inl ⟨HR.out, 0, 0, .slice none 0 0, .slice none 0 0, rfl, ⟨_, _, _, rfl⟩, ⟨_, _, _, rfl⟩, ((((HX.out.bw.setCell (p := ⟨w.heap.size, 0, none⟩) (Nat.le_refl _) _).setCell (p := ⟨w.heap.size, 1, none⟩) (Nat.le_refl _) _).setCell (p := ⟨w.heap.size, 2, none⟩) (Nat.le_refl _) _).setCell (p := ⟨w.heap.size, 3, none⟩) (Nat.le_refl _) _)⟩
      · have htl' : ¬ (t : Int) < (m : Int) + 2 := by omega
        obtain rfl : t = m + 2 := by omega
        have HR := hid (show Lra.stepW L = none by
          have e : L.drop (m + 2) = [] := List.drop_eq_nil_of_le (by rw [← HWS.out, List.length_map, HNN.out]; exact Nat.le_refl _)
          rw [HSA.out, HT.out, e, Lra.litAt_end]
          split <;> rfl)
        clear HT
        have hX := HX.out
        have r0 := row_cell hX.r0 0
        have r1 := row_cell hX.r0 1
        have r2 := row_cell hX.r0 2
        have r3 := row_cell hX.r0 3
        simp only [List.getElem?_toArray, List.getElem?_cons_zero, List.getElem?_cons_succ] at r0 r1 r2 r3
        have f0 := row_frozen hX.r0 0
        have f1 := row_frozen hX.r0 1
        have f2 := row_frozen hX.r0 2
        have f3 := row_frozen hX.r0 3
        clear hX
        go_wp2
        refine bodyPost_ret (results_cell_tmp2 rfl _ _ rfl (load_row43 _ (heap_set_row (heap_set_row (heap_set_row (heap_set_row HX.out.r0 _) _) _) _))) rfl ?_
        exact .inl ⟨HR.out, 0, 0, .slice none 0 0, .slice none 0 0, rfl, ⟨_, _, _, rfl⟩, ⟨_, _, _, rfl⟩, ((((HX.out.bw.setCell (p := ⟨w.heap.size, 0, none⟩) (Nat.le_refl _) _).setCell (p := ⟨w.heap.size, 1, none⟩) (Nat.le_refl _) _).setCell (p := ⟨w.heap.size, 2, none⟩) (Nat.le_refl _) _).setCell (p := ⟨w.heap.size, 3, none⟩) (Nat.le_refl _) _)⟩
end Go.Proofs.YtdodfmgbjfhnpaaDoor
