/- Model by the document's own function. -/
import Derived.Test.YtlhpnkgdnmnclaaDoorParses
import Derived.Test.YtlhpnkgdnmnclaaDoorRefM
import Derived.Laws.MakeOwn
namespace Go.Proofs.YtlhpnkgdnmnclaaDoor
open Go.RowKit
set_option linter.unusedVariables false
set_option linter.unusedSimpArgs false

theorem made_bools (n : Nat) : madeCells (Value.bool false).cells n = (List.replicate n (Value.bool false)).toArray := by
  apply Array.ext
  · simp [madeCells]
  · intro i h1 h2
    have h3 : i % 1 = 0 := Nat.mod_one i
    simp [madeCells, Value.cells, h3]
theorem run_make_bools (w : World) (n : Nat) (hn : n ≤ 1048576) : (Instr.makeSlice 33 (.int .i64 n) (.int .i64 n)).run Tryd.prog w = .ok (.slice (some ⟨w.heap.size, 0, none⟩) n n) (w.alloc (.cells (List.replicate n (Value.bool false)).toArray 4)) := by
  obtain ⟨i0, hi, hz⟩ := Option.map_eq_some_iff.1 info4
  simp only [Prod.mk.injEq] at hz
  obtain ⟨hz0, hz1, hz2⟩ := hz
  have := run_make (P := Tryd.prog) w 33 4 i0 (.bool false) Tryd.underlying33 hi hz0 .i64 .i64 n n (by omega) (by omega) (by rw [hz2]; omega) (by omega)
  rw [hz1, Int.toNat_natCast, Nat.mul_one, made_bools] at this
  exact this
def MOut (S : ByteArray) (vars : Nat) (R : List Bool) (w : World) (e : Ending) (w' : World) : Prop :=
  ((bstr (Dim.valuesB R) = S ∧ ∃ a cap, e = .returned (.tuple #[.slice a vars cap, .int .i64 0]) ∧ Bools w' a R) ∨ (¬ bstr (Dim.valuesB R) = S ∧ e = .returned (.tuple #[.slice none 0 0, .int .i64 21]))) ∧ Below w.heap.size w w'
/-- The model's block while it is filled. -/
structure MB (mb base : Nat) (w : World) (vars : Nat) (ms : List Bool) (ov : Value) (L : List (List Int)) (W : World) : Prop where
  len : ms.length = vars
  blk : W.heap[mb]? = some (.cells (ms.map Value.bool).toArray 4 (0, 0))
  lt : mb < base
  lns : ∃ ps, Lns base W ov L ps
  below : Below mb w W
theorem MB.set {mb base : Nat} {w : World} {vars : Nat} {ms : List Bool} {ov : Value} {L : List (List Int)} {W : World} (h : MB mb base w vars ms ov L W) (k : Nat) (b : Bool) : MB mb base w vars (ms.set k b) ov L (W.setCell ⟨mb, k, none⟩ (.bool b)) := by
  obtain ⟨ps, hL⟩ := h.lns
  refine ⟨by simp [h.len], ?_, h.lt, ⟨ps, ⟨hL.len, own_set hL.own h.lt _, fun j hj => ⟨(hL.ea j hj).1.kept (fun g cs hg => heap_other _ _ (fun e => ?_)), (hL.ea j hj).2⟩⟩⟩, h.below.setCell (Nat.le_refl _) _⟩
  · have := heap_set_row (k := k) h.blk (.bool b)
    rw [this]
    simp [List.map_set]
  · subst e
    rw [h.blk] at hg
    cases hg
theorem MB.bools {mb base : Nat} {w : World} {vars : Nat} {ms : List Bool} {ov : Value} {L : List (List Int)} {W : World} (h : MB mb base w vars ms ov L W) : Bools W (some ⟨mb, 0, none⟩) ms := by
  refine .inr ⟨mb, 0, rfl, (Array.getElem?_eq_some_iff.1 h.blk).1, fun j hj => ?_⟩
  rw [Nat.zero_add, row_cell h.blk j]
  simp [List.getD, List.getElem?_eq_getElem hj]

set_option maxRecDepth 100000 in
set_option maxHeartbeats 8000000 in
theorem model19 (S : ByteArray) (vars : Nat) (w : World) (hS : S.size ≤ 100000) (hv : vars ≤ 1048576) :
    Calls Tryd.prog 19 #[.string S, .int .i64 vars] w (MOut S vars (Dim.refM vars (Dim.allW (Dim.ints S))) w) := by
  have hv1 : ¬ (vars : Int) < 0 := by omega
  have hv2 : ¬ (1048576 : Int) < vars := by omega
  obtain ⟨R, hR⟩ : ∃ R, Dim.refM vars (Dim.allW (Dim.ints S)) = R := ⟨_, rfl⟩
  rw [hR]
  have HR := hid hR
  obtain ⟨L, hL⟩ : ∃ L, Dim.lines (Dim.ints S) = L := ⟨_, rfl⟩
  have HL := hid hL
  have HLn := hid (show L.length ≤ 100000 by rw [← hL]; have := Dim.lines_le (Dim.ints S); rw [Dim.ints_len] at this; omega)
  have mk := run_make_bools w vars hv
  have hmb := World.alloc_heap_new w (.cells (List.replicate vars (Value.bool false)).toArray 4)
  have hsz : (w.alloc (.cells (List.replicate vars (Value.bool false)).toArray 4)).heap.size = w.heap.size + 1 := by simp
  have hbl := below_box w (.cells (List.replicate vars (Value.bool false)).toArray 4)
  generalize w.alloc (.cells (List.replicate vars (Value.bool false)).toArray 4) = WM at mk hmb hsz hbl
  have HMB := hid hmb
  have HSZ := hid hsz
  have HBL := hid hbl
  have cvt := Lib.run_convert_string_bytes (P := Tryd.prog) WM 9 22 5 S Tryd.underlying9 Tryd.underlying22 Tryd.underlying5
  have C27 := hid (lines27 WM.heap.size 0 S.size (grownCap WM S.size 0 5) (Dim.ints S) (Lib.bytesWorld WM 5 S) (Dim.ints_len S) (str_txt S WM hS) (by rw [Lib.bytesWorld_size]; omega) hS)
  rw [hL] at C27
  clear hR hL hmb hsz hbl
  go_enter Tryd.func19, Tryd.ntmps19
  go_wp2_with (first
    | (go_at_call 27; refine C27.out.mono ?_; clear C27; rintro e W1 ⟨a1, cap1, ps, rfl, hLn, hb1⟩
       have hL1 := Lib.bytesWorld_size WM 5 S
       have hM0 := hid (show MB w.heap.size (Lib.bytesWorld WM 5 S).heap.size w vars (List.replicate vars false) (.slice a1 L.length cap1) L W1 from ⟨by simp, by
           rw [hb1.block w.heap.size (by rw [hL1, HSZ.out]; omega), Lib.bytesWorld_at_old WM 5 S w.heap.size (by rw [HSZ.out]; omega), HMB.out]; simp, by rw [hL1, HSZ.out]; omega, ⟨ps, hLn⟩, HBL.out.trans (((bytes_below WM S).trans (hb1.mono (by rw [hL1]; omega))).mono (by rw [HSZ.out]; omega))⟩)
       clear hLn hb1 hL1 cvt mk))
  generalize (Lib.bytesWorld WM 5 S).heap.size = base at hM0
  have HRF := hid (show ((Dim.items 0 (L.drop 0)).map Prod.snd).foldl (Dim.markW vars) (List.replicate vars false) = R by
    rw [← HR.out, ← HL.out]; rfl)
  have HW4 := hid (show ∀ i, i < L.length → ∀ u ∈ Dim.words (L.getD i []), u.length ≤ 100000 ∧ Byt u from fun i hi u hu => by
    have hm : L.getD i [] ∈ Dim.lines (Dim.ints S) := by rw [HL.out]; exact Cnf.getD_cls _ i hi
    obtain ⟨h1, h2⟩ := Dim.word_in _ _ hm u hu
    rw [Dim.ints_len] at h1
    exact ⟨by omega, fun c hc => ints_byt S c (h2 c hc)⟩)
  have HWC := hid (show ∀ i, i < L.length → (Dim.words (L.getD i [])).length ≤ 100000 from fun i hi => by
    have hm : L.getD i [] ∈ Dim.lines (Dim.ints S) := by rw [HL.out]; exact Cnf.getD_cls _ i hi
    have h1 := (Dim.lines_in _ _ hm).1
    have h2 := Dim.words_count (L.getD i [])
    rw [Dim.ints_len] at h1
    omega)
  generalize hm : L.length = m at HLn hM0 HW4 HWC
  have HM := hid hm
  have hmb : m ≤ 100000 := HLn.out
  clear hm HMB HSZ HBL HR
  have hA1 : m = 0 ∨ ∃ g, a1 = some ⟨g, 0, none⟩ := by
    rcases Nat.eq_zero_or_pos m with h | h
    · exact .inl h
    · obtain ⟨ps9, hL9⟩ := hM0.out.lns
      obtain ⟨g, c', v, e, _⟩ := hL9.at (j := 0) (by rw [HM.out]; exact h)
      injection e with e1 e2 e3
      exact .inr ⟨g, e1⟩
  rcases hA1 with h0 | ⟨g1, rfl⟩
  · go_loopw [8] (fun iv wr => ∃ (i : Nat) (ms : List Bool), iv = .int .i64 i ∧ i ≤ m ∧ Hid (((Dim.items i (L.drop i)).map Prod.snd).foldl (Dim.markW vars) ms = R) ∧ Hid (MB w.heap.size base w vars ms (.slice a1 m cap1) L wr)) (fun iv _ => m - (intOf iv).toNat)
    case atStart => exact ⟨0, List.replicate vars false, rfl, by omega, HRF, hM0⟩
    case round =>
      clear hM0 HRF
      obtain ⟨i, ms, rfl, him, HF, HMS⟩ := hrel
      have hil' : ¬ (i : Int) < m := by omega
      have hE := HF.out
      rw [Dim.items_end L i (by rw [HM.out]; omega), List.map_nil, List.foldl_nil] at hE
      subst hE
      have C17 := hid (values17 (some ⟨w.heap.size, 0, none⟩) vars vars ms wr HMS.out.len (by omega) HMS.out.bools)
      have HBO := hid (fun (W : World) (h : Below wr.heap.size wr W) => (HMS.out.bools).below h)
      have HBB := hid (fun (W : World) (h : Below wr.heap.size wr W) => HMS.out.below.trans (h.mono HMS.out.below.size))
      by_cases hVS : bstr (Dim.valuesB ms) = S
      · rw [hVS] at C17
        have HVS := hid hVS
        clear hVS HF
        go_wp2_with (first
          | (go_at_call 17; refine C17.out.mono ?_; clear C17; rintro e W9 ⟨rfl, hb9⟩; have HB9 := hid hb9; clear hb9))
        go_ret2
        exact ⟨.inl ⟨HVS.out, _, _, rfl, HBO.out _ HB9.out⟩, HBB.out _ HB9.out⟩
      · have hne := ne_str _ _ hVS
        have HVS := hid hVS
        generalize bstr (Dim.valuesB ms) = VS at C17 hne
        clear hVS HF
        go_wp2_with (first
          | (go_at_call 17; refine C17.out.mono ?_; clear C17; rintro e W9 ⟨rfl, hb9⟩; have HB9 := hid hb9; clear hb9))
        go_ret2
        exact ⟨.inr ⟨HVS.out, rfl⟩, HBB.out _ HB9.out⟩
  go_loopw [8] (fun iv wr => ∃ (i : Nat) (ms : List Bool), iv = .int .i64 i ∧ i ≤ m ∧ Hid (((Dim.items i (L.drop i)).map Prod.snd).foldl (Dim.markW vars) ms = R) ∧ Hid (MB w.heap.size base w vars ms (.slice (some ⟨g1, 0, none⟩) m cap1) L wr)) (fun iv _ => m - (intOf iv).toNat)
  case atStart => exact ⟨0, List.replicate vars false, rfl, by omega, HRF, hM0⟩
  case round =>
    clear hM0 HRF
    obtain ⟨i, ms, rfl, him, HF, HMS⟩ := hrel
    by_cases hil : i < m
    · have hil' : (i : Int) < m := by omega
      have HWI := hid (HW4.out i hil)
      have hwb := HWC.out i hil
      have HTB := hid (show ((Dim.todo L i 0).map Prod.snd).foldl (Dim.markW vars) ms = R by rw [← Dim.todo_begin L i (by rw [HM.out]; exact hil)]; exact HF.out)
      obtain ⟨wl, hwl⟩ : ∃ wl, (Dim.words (L.getD i [])).length = wl := ⟨_, rfl⟩
      rw [hwl] at hwb
      have HWL := hid hwl
      clear HF hwl
      go_wp2
      go_loopw [9] (fun kv wr => ∃ (k : Nat) (ms : List Bool), kv = .int .i64 k ∧ k ≤ wl ∧ Hid (((Dim.todo L i k).map Prod.snd).foldl (Dim.markW vars) ms = R) ∧ Hid (MB w.heap.size base w vars ms (.slice (some ⟨g1, 0, none⟩) m cap1) L wr)) (fun kv _ => wl - (intOf kv).toNat)
      case atStart => exact ⟨0, ms, rfl, by omega, HTB, HMS⟩
      case round =>
        clear HTB HMS
        obtain ⟨k, ms, rfl, hkl, HF, HMS⟩ := hrel
        obtain ⟨ps9, hL9⟩ := HMS.out.lns
        obtain ⟨g9, c9, v9, e9, q0, _, hS9⟩ := hL9.at (j := i) (by rw [HM.out]; exact hil)
        injection e9 with e1 e2 e3
        injection e1 with e1
        injection e1 with e1
        subst e1
        obtain ⟨a9, cap9, rfl, hS8⟩ := hS9
        rw [HWL.out] at q0
        clear hL9 e2 e3
        by_cases hk : k < wl
        · have hk' : (k : Int) < wl := by omega
          obtain ⟨g8, c8, e8, hcs⟩ := StrV.at (W := wr) (v := .slice a9 (Dim.words (L.getD i [])).length cap9) ⟨a9, cap9, rfl, hS8⟩ (i := k) (by rw [HWL.out]; exact hk)
          injection e8 with e1 e2 e3
          subst e1
          have HTW := hid (Dim.todo_word L i k (by rw [HWL.out]; exact hk))
          have hwm : (Dim.words (L.getD i [])).getD k [] ∈ Dim.words (L.getD i []) := Cnf.getD_cls _ k (by rw [HWL.out]; exact hk)
          obtain ⟨hw1, hw2⟩ := HWI.out _ hwm
          generalize (Dim.words (L.getD i [])).getD k [] = wd at hcs HTW hw1 hw2 hwm
          have C29 := hid (number29 (Dim.bs wd) true vars wr (by rw [Dim.bs_size]; omega) (by omega))
          rw [Dim.ints_bs _ hw2] at C29
          generalize Dim.bs wd = SW at hcs C29
          have hF := HF.out
          rw [HTW.out, List.map_cons, List.foldl_cons] at hF
          clear hw1 hw2 hwm HTW HF hS8 e2 e3
          by_cases hgo : ∃ nn, Dim.signed wd = some (false, nn) ∧ 0 < nn ∧ nn ≤ vars
          · obtain ⟨nn, hs, hn0, hnv⟩ := hgo
            obtain ⟨q, rfl⟩ : ∃ q, nn = q + 1 := ⟨nn - 1, by omega⟩
            rw [Dim.refNum_signed, hs] at C29
            simp only at C29
            rw [if_neg (by omega)] at C29
            simp only [Bool.false_eq_true, if_false] at C29
            have HFN := hid (show ((Dim.todo L i (k + 1)).map Prod.snd).foldl (Dim.markW vars) (ms.set q true) = R by
              have ht : Dim.markW vars ms wd = ms.set q true := by unfold Dim.markW; rw [hs]; simp only; rw [if_pos ⟨hn0, hnv⟩]; rfl
              rw [← ht]; exact hF)
            have HMN := hid (HMS.out.set q true)
            have hcell : wr.cell? ⟨w.heap.size, q, none⟩ = some (.bool (ms.getD q false)) := by
              have := HMS.out.len
              rw [row_cell HMS.out.blk q]
              simp [List.getD, List.getElem?_eq_getElem (show q < ms.length by omega)]
            have hfr := row_frozen HMS.out.blk q
            have hq : (q : Int) < vars := by omega
            clear hF hs hn0 hnv
            go_wp2_with (first
              | (go_at_call 29; refine C29.out.mono ?_; clear C29; rintro e W5 ⟨he, rfl⟩; simp only [NumOut] at he; subst he))
            go_roundw
            case rel => exact ⟨k + 1, _, by go_num, by omega, HFN, HMN⟩
            case measure => simp [intOf]; omega
          · have HFN := hid (show ((Dim.todo L i (k + 1)).map Prod.snd).foldl (Dim.markW vars) ms = R by
              have ht : Dim.markW vars ms wd = ms := by
                unfold Dim.markW
                rcases hs : Dim.signed wd with _ | ⟨neg, nn⟩
                · rfl
                · cases neg
                  · simp only
                    rw [if_neg (fun h => hgo ⟨nn, hs, h⟩)]
                  · rfl
              rw [ht] at hF; exact hF)
            have hr : ∃ (x : Int) (ok fit : Bool), Dim.refNum wd true vars = (x, ok, fit) ∧ (ok = false ∨ (ok = true ∧ fit = false) ∨ (ok = true ∧ fit = true ∧ ¬ 0 < x)) := by
              rw [Dim.refNum_signed]
              rcases hs : Dim.signed wd with _ | ⟨neg, nn⟩
              · exact ⟨0, false, false, rfl, .inl rfl⟩
              · by_cases hb : vars < nn
                · exact ⟨0, true, false, by simp only; rw [if_pos hb], .inr (.inl ⟨rfl, rfl⟩)⟩
                · refine ⟨if neg then -(nn : Int) else nn, true, true, by simp only; rw [if_neg hb], .inr (.inr ⟨rfl, rfl, ?_⟩)⟩
                  cases neg
                  · simp only [Bool.false_eq_true, if_false]
                    intro h
                    exact hgo ⟨nn, hs, by omega, by omega⟩
                  · simp only [if_true]; omega
            obtain ⟨x, ok, fit, hr1, hr2⟩ := hr
            rw [hr1] at C29
            clear hr1 hgo hF
            rcases hr2 with rfl | ⟨rfl, rfl⟩ | ⟨rfl, rfl, hx0⟩
            all_goals
              go_wp2_with (first
                | (go_at_call 29; refine C29.out.mono ?_; clear C29; rintro e W5 ⟨he, rfl⟩; simp only [NumOut] at he; subst he))
              go_roundw
              case rel => exact ⟨k + 1, ms, by go_num, by omega, HFN, HMS⟩
              case measure => simp [intOf]; omega
        · have hk' : ¬ (k : Int) < wl := by omega
          have HFN := hid (show ((Dim.items (i + 1) (L.drop (i + 1))).map Prod.snd).foldl (Dim.markW vars) ms = R by rw [← Dim.todo_line L i k (by rw [HWL.out]; omega)]; exact HF.out)
          clear hS8
          go_wp2
          go_roundw
          case rel => exact ⟨i + 1, ms, by go_num, by omega, HFN, HMS⟩
          case measure => simp [intOf]; omega
    · have hil' : ¬ (i : Int) < m := by omega
      have hE := HF.out
      rw [Dim.items_end L i (by rw [HM.out]; omega), List.map_nil, List.foldl_nil] at hE
      subst hE
      have C17 := hid (values17 (some ⟨w.heap.size, 0, none⟩) vars vars ms wr HMS.out.len (by omega) HMS.out.bools)
      have HBO := hid (fun (W : World) (h : Below wr.heap.size wr W) => (HMS.out.bools).below h)
      have HBB := hid (fun (W : World) (h : Below wr.heap.size wr W) => HMS.out.below.trans (h.mono HMS.out.below.size))
      by_cases hVS : bstr (Dim.valuesB ms) = S
      · rw [hVS] at C17
        have HVS := hid hVS
        clear hVS HF
        go_wp2_with (first
          | (go_at_call 17; refine C17.out.mono ?_; clear C17; rintro e W9 ⟨rfl, hb9⟩; have HB9 := hid hb9; clear hb9))
        go_ret2
        exact ⟨.inl ⟨HVS.out, _, _, rfl, HBO.out _ HB9.out⟩, HBB.out _ HB9.out⟩
      · have hne := ne_str _ _ hVS
        have HVS := hid hVS
        generalize bstr (Dim.valuesB ms) = VS at C17 hne
        clear hVS HF
        go_wp2_with (first
          | (go_at_call 17; refine C17.out.mono ?_; clear C17; rintro e W9 ⟨rfl, hb9⟩; have HB9 := hid hb9; clear hb9))
        go_ret2
        exact ⟨.inr ⟨HVS.out, rfl⟩, HBB.out _ HB9.out⟩
end Go.Proofs.YtlhpnkgdnmnclaaDoor
