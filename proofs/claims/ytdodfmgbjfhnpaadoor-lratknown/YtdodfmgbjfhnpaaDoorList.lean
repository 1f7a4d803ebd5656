/- A row of numbers off a line. -/
import Derived.Test.YtdodfmgbjfhnpaaDoorOne
namespace Go.Proofs.YtdodfmgbjfhnpaaDoor
open Go.RowKit
set_option linter.unusedVariables false
set_option linter.unusedSimpArgs false

/-- A row of numbers up to its 0, each as chk asks: the row, and what is left. -/
def listB (chk : Int → Bool) : Nat → ByteArray → Bool → List Int → Option (List Int × ByteArray × Bool)
  | 0, _, _, _ => none
  | f + 1, rest, more, acc =>
    match Lra.numL (Lra.ints (wordB rest more).1) with
    | none => none
    | some n => if n = 0 then some (acc, (wordB rest more).2.1, (wordB rest more).2.2) else if chk n = true then listB chk f (wordB rest more).2.1 (wordB rest more).2.2 (acc ++ [n]) else none
/-- How far a line can be read. -/
def far (rest : ByteArray) (more : Bool) : Nat := if more = true then rest.size + 1 else 0
theorem numL_empty : Lra.numL (Lra.ints ⟨#[]⟩) = none := by rfl
theorem far_less {rest : ByteArray} {more : Bool} {n : Int} (h : Lra.numL (Lra.ints (wordB rest more).1) = some n) : more = true ∧ far (wordB rest more).2.1 (wordB rest more).2.2 < far rest more := by
  cases more
  · rw [show (wordB rest false).1 = ⟨#[]⟩ from rfl, numL_empty] at h; cases h
  · refine ⟨rfl, ?_⟩
    rcases index_cases rest.data.toList 32 with hx | ⟨i, hi, hx⟩
    · have e1 : wordB rest true = (rest, ⟨#[]⟩, false) := by unfold wordB; rw [if_pos rfl, hx]; rfl
      rw [e1]; unfold far; simp
    · have e1 : wordB rest true = (rest.extract 0 i, rest.extract (i + 1) rest.size, true) := by
        unfold wordB
        rw [if_pos rfl, hx, if_neg (by omega)]
        simp
      rw [e1]; unfold far
      have hi' : i < rest.size := by simpa using hi
      simp only [if_true]
      rw [ByteArray.size_extract]; omega
theorem far_size (rest : ByteArray) : rest.size + 1 = far rest true := by unfold far; rw [if_pos rfl]
/-- What is kept of a row. -/
theorem keep_snoc (acc : List Int) (it0 : Nat) (n : Int) (it : Int) (hit : it = it0 + acc.length) :
    (if it + 1 ≤ 16777216 then acc.take (16777216 - it0) ++ [n] else acc.take (16777216 - it0)) = (acc ++ [n]).take (16777216 - it0) := by
  by_cases h : it + 1 ≤ 16777216
  · rw [if_pos h, List.take_of_length_le (by omega), List.take_of_length_le (by simp; omega)]
  · rw [if_neg h, List.take_append_of_le_length (by omega)]

/-- What a row of hints does to the reader. -/
def HintsTo (chk : Int → Bool) (base rb : Nat) (W : World) (rest : ByteArray) (more : Bool) (kd id : Int) (ls : List Int) (it : Nat) (lv hv : Value) (e : Ending) (w' : World) : Prop :=
  (listB chk (far rest more + 1) rest more [] = none ∧ e = .returned (.bool false) ∧ ∃ lv' hv', Mv rb W w' lv hv lv' hv')
  ∨ (∃ xs p2 p3, listB chk (far rest more + 1) rest more [] = some (xs, p2, p3) ∧ e = .returned (.bool true) ∧ ∃ hv', RdO base rb w' p2 p3 kd id ls (xs.take (16777216 - it)) (it + xs.length) lv hv' ∧ Mv rb W w' lv hv lv hv')

theorem wordO2 (base rb : Nat) (W : World) (rest : ByteArray) (more : Bool) (kd id : Int) (ls hs : List Int) (it : Int) (lv hv : Value) (h : RdO base rb W rest more kd id ls hs it lv hv) (hS : (rest.size : Int) ≤ 1099511627776) (p1 p2 : ByteArray) (p3 : Bool) (h1 : (wordB rest more).1 = p1) (h2 : (wordB rest more).2.1 = p2) (h3 : (wordB rest more).2.2 = p3) :
    Calls Tryd.prog 64 #[.pointer (some ⟨rb, 0, none⟩)] W fun e w' => e = .returned (.string p1) ∧ RdO base rb w' p2 p3 kd id ls hs it lv hv ∧ Mv rb W w' lv hv lv hv := by
  subst h1 h2 h3
  exact wordO base rb W rest more kd id ls hs it lv hv h hS

def farW (rb : Nat) (w : World) : Nat := match w.cell? ⟨rb, 0, none⟩, w.cell? ⟨rb, 1, none⟩ with
  | some (.string r), some (.bool m) => far r m
  | _, _ => 0
theorem RdO.far {base rb : Nat} {W : World} {rest : ByteArray} {more : Bool} {kd id : Int} {ls hs : List Int} {it : Int} {lv hv : Value} (h : RdO base rb W rest more kd id ls hs it lv hv) : farW rb W = far rest more := by
  unfold farW
  rw [h.rd.cells 0 _ rfl, h.rd.cells 1 _ rfl]
  rfl

set_option maxRecDepth 100000 in
set_option maxHeartbeats 4000000 in
theorem list50_53 (base rb : Nat) (W : World) (rest : ByteArray) (more : Bool) (kd id : Int) (ls : List Int) (it : Nat) (lv hv : Value) (h : RdO base rb W rest more kd id ls [] it lv hv) (hb : base ≤ W.heap.size) (hS : it + far rest more ≤ 1099511627776) (hz : rest.size ≤ 1099511627776) :
    Calls Tryd.prog 50 #[.pointer (some ⟨rb, 0, none⟩), .func (.func 53) #[.pointer (some ⟨rb, 0, none⟩)] #[]] W fun e w' => HintsTo Lra.hint base rb W rest more kd id ls it lv hv e w' := by
  have HB := hid hb
  have HR := hid h
  have HS := hid hS
  have HZ := hid hz
  clear hb h hS hz
  go_enter Tryd.func50, Tryd.ntmps50
  go_wp2
  go_loopw [5] (fun _ wr => ∃ (rest' : ByteArray) (more' : Bool) (acc : List Int) (hv' : Value) (f : Nat), Hid (listB Lra.hint (far rest more + 1) rest more [] = listB Lra.hint f rest' more' acc) ∧ Hid (far rest' more' < f) ∧ Hid (RdO base rb wr rest' more' kd id ls (acc.take (16777216 - it)) ((it + acc.length : Nat) : Int) lv hv') ∧ Hid (Mv rb W wr lv hv lv hv') ∧ Hid (it + acc.length + far rest' more' ≤ 1099511627776) ∧ Hid (rest'.size ≤ 1099511627776)) (fun _ wr => farW rb wr)
  case atStart => exact ⟨rest, more, [], hv, far rest more + 1, hid rfl, hid (by omega), hid (by simpa using HR.out), hid (Mv.refl _ _ _ _), hid (by simpa using HS.out), HZ⟩
  case round =>
    obtain ⟨rest', more', acc, hv', f, HL, HF, HQ, HM, HBD, HZ1⟩ := hrel
    have HFW := hid HQ.out.far
    obtain ⟨f', rfl⟩ : ∃ f', f = f' + 1 := ⟨f - 1, by have := HF.out; omega⟩
    have hsz : (rest'.size : Int) ≤ 1099511627776 := by have := HZ1.out; omega
    have K64 := hid (wordO2 base rb wr rest' more' kd id ls _ _ lv hv' HQ.out hsz _ _ _ rfl rfl rfl)
    have hws := (wordB_size rest' more').1
    have HZ2 := hid (show (wordB rest' more').2.1.size ≤ 1099511627776 by have h1 := (wordB_size rest' more').2; have h2 := HZ1.out; omega)
    have H63 := fun w => number63 (wordB rest' more').1 w (by omega)
    have HST := hid (show listB Lra.hint (f' + 1) rest' more' acc = _ from by rw [listB])
    have HFL := hid (fun n => far_less (rest := rest') (more := more') (n := n))
    generalize (wordB rest' more').2.2 = p3 at *
    generalize (wordB rest' more').2.1 = p2 at *
    generalize (wordB rest' more').1 = p1 at *
    cases hn : Lra.numL (Lra.ints p1) with
    | none =>
      have K63 : ∀ w, Hid (Calls Tryd.prog 63 #[.string p1] w fun e w' => e = .returned (.tuple #[.int .i64 0, .bool false]) ∧ w' = w) := fun w => hid (by have := H63 w; rw [hn] at this; exact this)
      have HN := hid (show listB Lra.hint (far rest more + 1) rest more [] = none by rw [HL.out, HST.out, hn])
      clear hn H63 hws hsz
      go_wp2_with (first | (go_at_call 64; refine K64.out.mono ?_; clear K64; rintro e W1 ⟨rfl, h⟩; have HR1 := hid h; clear h) | (go_at_call 63; refine (K63 _).out.mono ?_; clear K63; rintro e W2 ⟨rfl, rfl⟩))
      go_ret
      exact .inl ⟨HN.out, rfl, _, _, HM.out.trans HR1.out.2⟩
    | some n =>
      have K63 : ∀ w, Hid (Calls Tryd.prog 63 #[.string p1] w fun e w' => e = .returned (.tuple #[.int .i64 n, .bool true]) ∧ w' = w) := fun w => hid (by have := H63 w; rw [hn] at this; exact this)
      have HFA := hid (HFL.out n hn)
      by_cases h0 : n = 0
      · subst h0
        have HN := hid (show listB Lra.hint (far rest more + 1) rest more [] = some (acc, p2, p3) by rw [HL.out, HST.out, hn]; simp)
        clear hn H63 hws hsz
        go_wp2_with (first | (go_at_call 64; refine K64.out.mono ?_; clear K64; rintro e W1 ⟨rfl, h⟩; have HR1 := hid h; clear h) | (go_at_call 63; refine (K63 _).out.mono ?_; clear K63; rintro e W2 ⟨rfl, rfl⟩))
        go_ret
        exact .inr ⟨acc, p2, p3, HN.out, rfl, _, HR1.out.1, HM.out.trans HR1.out.2⟩
      · have h0' : (n == 0) = false := by simpa using h0
        have K53 := fun (w : World) (hR : RdO base rb w p2 p3 kd id ls (acc.take (16777216 - it)) ((it + acc.length : Nat) : Int) lv hv') (hB : base ≤ w.heap.size) => takeHint53 base rb w p2 p3 kd id ls _ _ lv hv' n hR hB (by rw [List.length_take]; omega) (by omega) (by have := HBD.out; omega)
        cases hc : Lra.hint n
        · have HN := hid (show listB Lra.hint (far rest more + 1) rest more [] = none by rw [HL.out, HST.out, hn]; simp [h0, hc])
          have HC := hid hc
          have L53 : ∀ w, RdO base rb w p2 p3 kd id ls (acc.take (16777216 - it)) ((it + acc.length : Nat) : Int) lv hv' → base ≤ w.heap.size → Hid (Calls Tryd.prog 53 #[.pointer (some ⟨rb, 0, none⟩), .int .i64 n] w fun e w' => e = .returned (.bool false) ∧ w' = w) := fun w h1 h2 => hid ((K53 w h1 h2).mono (by
            rintro e w' ⟨rfl, h | h⟩
            · rw [hc]; exact ⟨rfl, h.2⟩
            · rw [hc] at h; cases h.1))
          clear hn H63 hws hsz K53 hc h0
          go_wp2_with (first | (go_at_call 64; refine K64.out.mono ?_; clear K64; rintro e W1 ⟨rfl, h⟩; have HR1 := hid h; clear h) | (go_at_call 63; refine (K63 _).out.mono ?_; clear K63; rintro e W2 ⟨rfl, rfl⟩) | (go_at_call 53; refine (L53 _ HR1.out.1 (Nat.le_trans HB.out (Nat.le_trans HM.out.size HR1.out.2.size))).out.mono ?_; clear L53; rintro e W3 ⟨rfl, rfl⟩))
          go_ret
          exact .inl ⟨HN.out, rfl, _, _, HM.out.trans HR1.out.2⟩
        · have HN := hid (show listB Lra.hint (far rest more + 1) rest more [] = listB Lra.hint f' p2 p3 (acc ++ [n]) by rw [HL.out, HST.out, hn]; simp [h0, hc])
          have L53 : ∀ w, RdO base rb w p2 p3 kd id ls (acc.take (16777216 - it)) ((it + acc.length : Nat) : Int) lv hv' → base ≤ w.heap.size → Hid (Calls Tryd.prog 53 #[.pointer (some ⟨rb, 0, none⟩), .int .i64 n] w fun e w' => e = .returned (.bool true) ∧ ∃ hv2, RdO base rb w' p2 p3 kd id ls ((acc ++ [n]).take (16777216 - it)) ((it + (acc ++ [n]).length : Nat) : Int) lv hv2 ∧ Mv rb w w' lv hv' lv hv2) := fun w h1 h2 => hid ((K53 w h1 h2).mono (by
            rintro e w' ⟨rfl, h | h⟩
            · rw [hc] at h; cases h.1
            · rw [hc]
              refine ⟨rfl, ?_⟩
              obtain ⟨_, hv2, h3, h4⟩ := h
              rw [keep_snoc acc it n _ (by omega)] at h3
              refine ⟨hv2, ?_, h4⟩
              rw [show ((it + (acc ++ [n]).length : Nat) : Int) = ((it + acc.length : Nat) : Int) + 1 by simp; omega]
              exact h3))
          clear hn H63 hws hsz K53 hc h0
          go_wp2_with (first | (go_at_call 64; refine K64.out.mono ?_; clear K64; rintro e W1 ⟨rfl, h⟩; have HR1 := hid h; clear h) | (go_at_call 63; refine (K63 _).out.mono ?_; clear K63; rintro e W2 ⟨rfl, rfl⟩) | (go_at_call 53; refine (L53 _ HR1.out.1 (Nat.le_trans HB.out (Nat.le_trans HM.out.size HR1.out.2.size))).out.mono ?_; clear L53; rintro e W3 ⟨rfl, hv2, h⟩; have HR2 := hid h; clear h))
          refine ⟨⟨p2, p3, acc ++ [n], hv2, f', HN, hid (by have h1 := HFA.out.2; have h2 := HF.out; omega), hid HR2.out.1, hid (HM.out.trans (HR1.out.2.trans HR2.out.2)), hid (by have h1 := HFA.out.2; have h2 := HBD.out; simp; omega), HZ2⟩, ?_⟩
          rw [HR2.out.1.far, HFW.out]
          exact HFA.out.2
set_option maxRecDepth 100000 in
set_option maxHeartbeats 4000000 in
theorem list50_51 (base rb : Nat) (W : World) (rest : ByteArray) (more : Bool) (kd id : Int) (ls : List Int) (it : Nat) (lv hv : Value) (h : RdO base rb W rest more kd id ls [] it lv hv) (hb : base ≤ W.heap.size) (hS : it + far rest more ≤ 1099511627776) (hz : rest.size ≤ 1099511627776) :
    Calls Tryd.prog 50 #[.pointer (some ⟨rb, 0, none⟩), .func (.func 51) #[.pointer (some ⟨rb, 0, none⟩)] #[]] W fun e w' => HintsTo Lra.added base rb W rest more kd id ls it lv hv e w' := by
  have HB := hid hb
  have HR := hid h
  have HS := hid hS
  have HZ := hid hz
  clear hb h hS hz
  go_enter Tryd.func50, Tryd.ntmps50
  go_wp2
  go_loopw [5] (fun _ wr => ∃ (rest' : ByteArray) (more' : Bool) (acc : List Int) (hv' : Value) (f : Nat), Hid (listB Lra.added (far rest more + 1) rest more [] = listB Lra.added f rest' more' acc) ∧ Hid (far rest' more' < f) ∧ Hid (RdO base rb wr rest' more' kd id ls (acc.take (16777216 - it)) ((it + acc.length : Nat) : Int) lv hv') ∧ Hid (Mv rb W wr lv hv lv hv') ∧ Hid (it + acc.length + far rest' more' ≤ 1099511627776) ∧ Hid (rest'.size ≤ 1099511627776)) (fun _ wr => farW rb wr)
  case atStart => exact ⟨rest, more, [], hv, far rest more + 1, hid rfl, hid (by omega), hid (by simpa using HR.out), hid (Mv.refl _ _ _ _), hid (by simpa using HS.out), HZ⟩
  case round =>
    obtain ⟨rest', more', acc, hv', f, HL, HF, HQ, HM, HBD, HZ1⟩ := hrel
    have HFW := hid HQ.out.far
    obtain ⟨f', rfl⟩ : ∃ f', f = f' + 1 := ⟨f - 1, by have := HF.out; omega⟩
    have hsz : (rest'.size : Int) ≤ 1099511627776 := by have := HZ1.out; omega
    have K64 := hid (wordO2 base rb wr rest' more' kd id ls _ _ lv hv' HQ.out hsz _ _ _ rfl rfl rfl)
    have hws := (wordB_size rest' more').1
    have HZ2 := hid (show (wordB rest' more').2.1.size ≤ 1099511627776 by have h1 := (wordB_size rest' more').2; have h2 := HZ1.out; omega)
    have H63 := fun w => number63 (wordB rest' more').1 w (by omega)
    have HST := hid (show listB Lra.added (f' + 1) rest' more' acc = _ from by rw [listB])
    have HFL := hid (fun n => far_less (rest := rest') (more := more') (n := n))
    generalize (wordB rest' more').2.2 = p3 at *
    generalize (wordB rest' more').2.1 = p2 at *
    generalize (wordB rest' more').1 = p1 at *
    cases hn : Lra.numL (Lra.ints p1) with
    | none =>
      have K63 : ∀ w, Hid (Calls Tryd.prog 63 #[.string p1] w fun e w' => e = .returned (.tuple #[.int .i64 0, .bool false]) ∧ w' = w) := fun w => hid (by have := H63 w; rw [hn] at this; exact this)
      have HN := hid (show listB Lra.added (far rest more + 1) rest more [] = none by rw [HL.out, HST.out, hn])
      clear hn H63 hws hsz
      go_wp2_with (first | (go_at_call 64; refine K64.out.mono ?_; clear K64; rintro e W1 ⟨rfl, h⟩; have HR1 := hid h; clear h) | (go_at_call 63; refine (K63 _).out.mono ?_; clear K63; rintro e W2 ⟨rfl, rfl⟩))
      go_ret
      exact .inl ⟨HN.out, rfl, _, _, HM.out.trans HR1.out.2⟩
    | some n =>
      have K63 : ∀ w, Hid (Calls Tryd.prog 63 #[.string p1] w fun e w' => e = .returned (.tuple #[.int .i64 n, .bool true]) ∧ w' = w) := fun w => hid (by have := H63 w; rw [hn] at this; exact this)
      have HFA := hid (HFL.out n hn)
      by_cases h0 : n = 0
      · subst h0
        have HN := hid (show listB Lra.added (far rest more + 1) rest more [] = some (acc, p2, p3) by rw [HL.out, HST.out, hn]; simp)
        clear hn H63 hws hsz
        go_wp2_with (first | (go_at_call 64; refine K64.out.mono ?_; clear K64; rintro e W1 ⟨rfl, h⟩; have HR1 := hid h; clear h) | (go_at_call 63; refine (K63 _).out.mono ?_; clear K63; rintro e W2 ⟨rfl, rfl⟩))
        go_ret
        exact .inr ⟨acc, p2, p3, HN.out, rfl, _, HR1.out.1, HM.out.trans HR1.out.2⟩
      · have h0' : (n == 0) = false := by simpa using h0
        have K51 := fun (w : World) (hR : RdO base rb w p2 p3 kd id ls (acc.take (16777216 - it)) ((it + acc.length : Nat) : Int) lv hv') (hB : base ≤ w.heap.size) => takeGone51 base rb w p2 p3 kd id ls _ _ lv hv' n hR hB (by rw [List.length_take]; omega) (by omega) (by have := HBD.out; omega)
        cases hc : Lra.added n
        · have HN := hid (show listB Lra.added (far rest more + 1) rest more [] = none by rw [HL.out, HST.out, hn]; simp [h0, hc])
          have HC := hid hc
          have L51 : ∀ w, RdO base rb w p2 p3 kd id ls (acc.take (16777216 - it)) ((it + acc.length : Nat) : Int) lv hv' → base ≤ w.heap.size → Hid (Calls Tryd.prog 51 #[.pointer (some ⟨rb, 0, none⟩), .int .i64 n] w fun e w' => e = .returned (.bool false) ∧ w' = w) := fun w h1 h2 => hid ((K51 w h1 h2).mono (by
            rintro e w' ⟨rfl, h | h⟩
            · rw [hc]; exact ⟨rfl, h.2⟩
            · rw [hc] at h; cases h.1))
          clear hn H63 hws hsz K51 hc h0
          go_wp2_with (first | (go_at_call 64; refine K64.out.mono ?_; clear K64; rintro e W1 ⟨rfl, h⟩; have HR1 := hid h; clear h) | (go_at_call 63; refine (K63 _).out.mono ?_; clear K63; rintro e W2 ⟨rfl, rfl⟩) | (go_at_call 51; refine (L51 _ HR1.out.1 (Nat.le_trans HB.out (Nat.le_trans HM.out.size HR1.out.2.size))).out.mono ?_; clear L51; rintro e W3 ⟨rfl, rfl⟩))
          go_ret
          exact .inl ⟨HN.out, rfl, _, _, HM.out.trans HR1.out.2⟩
        · have HN := hid (show listB Lra.added (far rest more + 1) rest more [] = listB Lra.added f' p2 p3 (acc ++ [n]) by rw [HL.out, HST.out, hn]; simp [h0, hc])
          have L51 : ∀ w, RdO base rb w p2 p3 kd id ls (acc.take (16777216 - it)) ((it + acc.length : Nat) : Int) lv hv' → base ≤ w.heap.size → Hid (Calls Tryd.prog 51 #[.pointer (some ⟨rb, 0, none⟩), .int .i64 n] w fun e w' => e = .returned (.bool true) ∧ ∃ hv2, RdO base rb w' p2 p3 kd id ls ((acc ++ [n]).take (16777216 - it)) ((it + (acc ++ [n]).length : Nat) : Int) lv hv2 ∧ Mv rb w w' lv hv' lv hv2) := fun w h1 h2 => hid ((K51 w h1 h2).mono (by
            rintro e w' ⟨rfl, h | h⟩
            · rw [hc] at h; cases h.1
            · rw [hc]
              refine ⟨rfl, ?_⟩
              obtain ⟨_, hv2, h3, h4⟩ := h
              rw [keep_snoc acc it n _ (by omega)] at h3
              refine ⟨hv2, ?_, h4⟩
              rw [show ((it + (acc ++ [n]).length : Nat) : Int) = ((it + acc.length : Nat) : Int) + 1 by simp; omega]
              exact h3))
          clear hn H63 hws hsz K51 hc h0
          go_wp2_with (first | (go_at_call 64; refine K64.out.mono ?_; clear K64; rintro e W1 ⟨rfl, h⟩; have HR1 := hid h; clear h) | (go_at_call 63; refine (K63 _).out.mono ?_; clear K63; rintro e W2 ⟨rfl, rfl⟩) | (go_at_call 51; refine (L51 _ HR1.out.1 (Nat.le_trans HB.out (Nat.le_trans HM.out.size HR1.out.2.size))).out.mono ?_; clear L51; rintro e W3 ⟨rfl, hv2, h⟩; have HR2 := hid h; clear h))
          refine ⟨⟨p2, p3, acc ++ [n], hv2, f', HN, hid (by have h1 := HFA.out.2; have h2 := HF.out; omega), hid HR2.out.1, hid (HM.out.trans (HR1.out.2.trans HR2.out.2)), hid (by have h1 := HFA.out.2; have h2 := HBD.out; simp; omega), HZ2⟩, ?_⟩
          rw [HR2.out.1.far, HFW.out]
          exact HFA.out.2
/-- What a row of literals does to the reader. -/
def LitsTo (chk : Int → Bool) (base rb : Nat) (W : World) (rest : ByteArray) (more : Bool) (kd id : Int) (hs : List Int) (it : Nat) (lv hv : Value) (e : Ending) (w' : World) : Prop :=
  (listB chk (far rest more + 1) rest more [] = none ∧ e = .returned (.bool false) ∧ ∃ lv' hv', Mv rb W w' lv hv lv' hv')
  ∨ (∃ xs p2 p3, listB chk (far rest more + 1) rest more [] = some (xs, p2, p3) ∧ e = .returned (.bool true) ∧ ∃ lv', RdO base rb w' p2 p3 kd id (xs.take (16777216 - it)) hs (it + xs.length) lv' hv ∧ Mv rb W w' lv hv lv' hv)

set_option maxRecDepth 100000 in
set_option maxHeartbeats 4000000 in
theorem list50_52 (base rb : Nat) (W : World) (rest : ByteArray) (more : Bool) (kd id : Int) (hs : List Int) (it : Nat) (lv hv : Value) (h : RdO base rb W rest more kd id [] hs it lv hv) (hb : base ≤ W.heap.size) (hS : it + far rest more ≤ 1099511627776) (hz : rest.size ≤ 1099511627776) :
    Calls Tryd.prog 50 #[.pointer (some ⟨rb, 0, none⟩), .func (.func 52) #[.pointer (some ⟨rb, 0, none⟩)] #[]] W fun e w' => LitsTo Lra.literal base rb W rest more kd id hs it lv hv e w' := by
  have HB := hid hb
  have HR := hid h
  have HS := hid hS
  have HZ := hid hz
  clear hb h hS hz
  go_enter Tryd.func50, Tryd.ntmps50
  go_wp2
  go_loopw [5] (fun _ wr => ∃ (rest' : ByteArray) (more' : Bool) (acc : List Int) (lv' : Value) (f : Nat), Hid (listB Lra.literal (far rest more + 1) rest more [] = listB Lra.literal f rest' more' acc) ∧ Hid (far rest' more' < f) ∧ Hid (RdO base rb wr rest' more' kd id (acc.take (16777216 - it)) hs ((it + acc.length : Nat) : Int) lv' hv) ∧ Hid (Mv rb W wr lv hv lv' hv) ∧ Hid (it + acc.length + far rest' more' ≤ 1099511627776) ∧ Hid (rest'.size ≤ 1099511627776)) (fun _ wr => farW rb wr)
  case atStart => exact ⟨rest, more, [], lv, far rest more + 1, hid rfl, hid (by omega), hid (by simpa using HR.out), hid (Mv.refl _ _ _ _), hid (by simpa using HS.out), HZ⟩
  case round =>
    obtain ⟨rest', more', acc, lv', f, HL, HF, HQ, HM, HBD, HZ1⟩ := hrel
    have HFW := hid HQ.out.far
    obtain ⟨f', rfl⟩ : ∃ f', f = f' + 1 := ⟨f - 1, by have := HF.out; omega⟩
    have hsz : (rest'.size : Int) ≤ 1099511627776 := by have := HZ1.out; omega
    have K64 := hid (wordO2 base rb wr rest' more' kd id _ hs _ lv' hv HQ.out hsz _ _ _ rfl rfl rfl)
    have hws := (wordB_size rest' more').1
    have HZ2 := hid (show (wordB rest' more').2.1.size ≤ 1099511627776 by have h1 := (wordB_size rest' more').2; have h2 := HZ1.out; omega)
    have H63 := fun w => number63 (wordB rest' more').1 w (by omega)
    have HST := hid (show listB Lra.literal (f' + 1) rest' more' acc = _ from by rw [listB])
    have HFL := hid (fun n => far_less (rest := rest') (more := more') (n := n))
    generalize (wordB rest' more').2.2 = p3 at *
    generalize (wordB rest' more').2.1 = p2 at *
    generalize (wordB rest' more').1 = p1 at *
    cases hn : Lra.numL (Lra.ints p1) with
    | none =>
      have K63 : ∀ w, Hid (Calls Tryd.prog 63 #[.string p1] w fun e w' => e = .returned (.tuple #[.int .i64 0, .bool false]) ∧ w' = w) := fun w => hid (by have := H63 w; rw [hn] at this; exact this)
      have HN := hid (show listB Lra.literal (far rest more + 1) rest more [] = none by rw [HL.out, HST.out, hn])
      clear hn H63 hws hsz
      go_wp2_with (first | (go_at_call 64; refine K64.out.mono ?_; clear K64; rintro e W1 ⟨rfl, h⟩; have HR1 := hid h; clear h) | (go_at_call 63; refine (K63 _).out.mono ?_; clear K63; rintro e W2 ⟨rfl, rfl⟩))
      go_ret
      exact .inl ⟨HN.out, rfl, _, _, HM.out.trans HR1.out.2⟩
    | some n =>
      have K63 : ∀ w, Hid (Calls Tryd.prog 63 #[.string p1] w fun e w' => e = .returned (.tuple #[.int .i64 n, .bool true]) ∧ w' = w) := fun w => hid (by have := H63 w; rw [hn] at this; exact this)
      have HFA := hid (HFL.out n hn)
      by_cases h0 : n = 0
      · subst h0
        have HN := hid (show listB Lra.literal (far rest more + 1) rest more [] = some (acc, p2, p3) by rw [HL.out, HST.out, hn]; simp)
        clear hn H63 hws hsz
        go_wp2_with (first | (go_at_call 64; refine K64.out.mono ?_; clear K64; rintro e W1 ⟨rfl, h⟩; have HR1 := hid h; clear h) | (go_at_call 63; refine (K63 _).out.mono ?_; clear K63; rintro e W2 ⟨rfl, rfl⟩))
        go_ret
        exact .inr ⟨acc, p2, p3, HN.out, rfl, _, HR1.out.1, HM.out.trans HR1.out.2⟩
      · have h0' : (n == 0) = false := by simpa using h0
        have K52 := fun (w : World) (hR : RdO base rb w p2 p3 kd id (acc.take (16777216 - it)) hs ((it + acc.length : Nat) : Int) lv' hv) (hB : base ≤ w.heap.size) => takeLit52 base rb w p2 p3 kd id _ hs _ lv' hv n hR hB (by rw [List.length_take]; omega) (by omega) (by have := HBD.out; omega)
        cases hc : Lra.literal n
        · have HN := hid (show listB Lra.literal (far rest more + 1) rest more [] = none by rw [HL.out, HST.out, hn]; simp [h0, hc])
          have HC := hid hc
          have L52 : ∀ w, RdO base rb w p2 p3 kd id (acc.take (16777216 - it)) hs ((it + acc.length : Nat) : Int) lv' hv → base ≤ w.heap.size → Hid (Calls Tryd.prog 52 #[.pointer (some ⟨rb, 0, none⟩), .int .i64 n] w fun e w' => e = .returned (.bool false) ∧ w' = w) := fun w h1 h2 => hid ((K52 w h1 h2).mono (by
            rintro e w' ⟨rfl, h | h⟩
            · rw [hc]; exact ⟨rfl, h.2⟩
            · rw [hc] at h; cases h.1))
          clear hn H63 hws hsz K52 hc h0
          go_wp2_with (first | (go_at_call 64; refine K64.out.mono ?_; clear K64; rintro e W1 ⟨rfl, h⟩; have HR1 := hid h; clear h) | (go_at_call 63; refine (K63 _).out.mono ?_; clear K63; rintro e W2 ⟨rfl, rfl⟩) | (go_at_call 52; refine (L52 _ HR1.out.1 (Nat.le_trans HB.out (Nat.le_trans HM.out.size HR1.out.2.size))).out.mono ?_; clear L52; rintro e W3 ⟨rfl, rfl⟩))
          go_ret
          exact .inl ⟨HN.out, rfl, _, _, HM.out.trans HR1.out.2⟩
        · have HN := hid (show listB Lra.literal (far rest more + 1) rest more [] = listB Lra.literal f' p2 p3 (acc ++ [n]) by rw [HL.out, HST.out, hn]; simp [h0, hc])
          have L52 : ∀ w, RdO base rb w p2 p3 kd id (acc.take (16777216 - it)) hs ((it + acc.length : Nat) : Int) lv' hv → base ≤ w.heap.size → Hid (Calls Tryd.prog 52 #[.pointer (some ⟨rb, 0, none⟩), .int .i64 n] w fun e w' => e = .returned (.bool true) ∧ ∃ lv2, RdO base rb w' p2 p3 kd id ((acc ++ [n]).take (16777216 - it)) hs ((it + (acc ++ [n]).length : Nat) : Int) lv2 hv ∧ Mv rb w w' lv' hv lv2 hv) := fun w h1 h2 => hid ((K52 w h1 h2).mono (by
            rintro e w' ⟨rfl, h | h⟩
            · rw [hc] at h; cases h.1
            · rw [hc]
              refine ⟨rfl, ?_⟩
              obtain ⟨_, lv2, h3, h4⟩ := h
              rw [keep_snoc acc it n _ (by omega)] at h3
              refine ⟨lv2, ?_, h4⟩
              rw [show ((it + (acc ++ [n]).length : Nat) : Int) = ((it + acc.length : Nat) : Int) + 1 by simp; omega]
              exact h3))
          clear hn H63 hws hsz K52 hc h0
          go_wp2_with (first | (go_at_call 64; refine K64.out.mono ?_; clear K64; rintro e W1 ⟨rfl, h⟩; have HR1 := hid h; clear h) | (go_at_call 63; refine (K63 _).out.mono ?_; clear K63; rintro e W2 ⟨rfl, rfl⟩) | (go_at_call 52; refine (L52 _ HR1.out.1 (Nat.le_trans HB.out (Nat.le_trans HM.out.size HR1.out.2.size))).out.mono ?_; clear L52; rintro e W3 ⟨rfl, lv2, h⟩; have HR2 := hid h; clear h))
          refine ⟨⟨p2, p3, acc ++ [n], lv2, f', HN, hid (by have h1 := HFA.out.2; have h2 := HF.out; omega), hid HR2.out.1, hid (HM.out.trans (HR1.out.2.trans HR2.out.2)), hid (by have h1 := HFA.out.2; have h2 := HBD.out; simp; omega), HZ2⟩, ?_⟩
          rw [HR2.out.1.far, HFW.out]
          exact HFA.out.2
end Go.Proofs.YtdodfmgbjfhnpaaDoor
