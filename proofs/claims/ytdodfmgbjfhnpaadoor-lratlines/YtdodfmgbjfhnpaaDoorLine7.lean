/- A proof's text line by line, as a call. -/
import Derived.Test.YtdodfmgbjfhnpaaDoorRow6
namespace Lra
set_option linter.unusedVariables false
/-- The bytes of the first k steps. -/
def upto (ss : List Stp) (k : Nat) : List Int := I (textB (ss.take k))
theorem textB_app (xs ys : List Stp) : textB (xs ++ ys) = textB xs ++ textB ys := by
  unfold textB
  rw [List.map_append, List.flatten_append]
theorem textB_cons (s : Stp) (ss : List Stp) : textB (s :: ss) = lineB s ++ textB ss := rfl
theorem upto_succ (ss : List Stp) (k : Nat) (h : k < ss.length) : upto ss (k + 1) = upto ss k ++ (join (wordsS ss[k]) ++ [10]) := by
  unfold upto
  rw [textB_take ss k h, I_app, line_I]
theorem text_split (ss : List Stp) (k : Nat) : I (textB ss) = upto ss k ++ I (textB (ss.drop k)) := by
  unfold upto
  rw [← I_app]
  congr 1
  rw [← textB_app, List.take_append_drop]
/-- Where one stands in a text: behind n lines, the next one begun. -/
structure At (ss : List Stp) (n from_ i : Nat) : Prop where
  hn : n ≤ ss.length
  hf : from_ = (upto ss n).length
  hi : from_ ≤ i
  hw : n < ss.length → i < from_ + (join (wordsS (ss.getD n ⟨0, 0, [], []⟩))).length + 1
  he : n = ss.length → i = from_
theorem At.start (ss : List Stp) : At ss 0 0 0 := ⟨Nat.zero_le _, by simp [upto, textB, I], Nat.le_refl _, fun _ => by omega, fun _ => rfl⟩
theorem text_at (ss : List Stp) (n : Nat) (h : n < ss.length) : I (textB ss) = upto ss n ++ ((join (wordsS ss[n]) ++ [10]) ++ I (textB (ss.drop (n + 1)))) := by
  rw [text_split ss n]
  congr 1
  rw [List.drop_eq_getElem_cons h, textB_cons, I_app, line_I]
/-- A byte of the text, within a line or at its end. -/
theorem At.byte {ss : List Stp} {n f i : Nat} (h : At ss n f i) (hi : i < (I (textB ss)).length) :
    ∃ hn : n < ss.length, ((I (textB ss)).getD i 0 = 10 ∧ i = f + (join (wordsS ss[n])).length ∧ ((I (textB ss)).drop f).take (i + 1 - f) = I (lineB ss[n]) ∧ At ss (n + 1) (i + 1) (i + 1)) ∨ ((I (textB ss)).getD i 0 ≠ 10 ∧ At ss n f (i + 1)) := by
  have hn : n < ss.length := by
    rcases Nat.lt_or_ge n ss.length with h1 | h1
    · exact h1
    · have h2 : n = ss.length := Nat.le_antisymm h.hn h1
      have h3 := h.he h2
      have h4 := h.hf
      unfold upto at h4
      rw [h2, List.take_length] at h4
      omega
  refine ⟨hn, ?_⟩
  have hw := h.hw hn
  have hf := h.hf
  have hi0 := h.hi
  have hg : ss.getD n ⟨0, 0, [], []⟩ = ss[n] := by simp [List.getD, List.getElem?_eq_getElem hn]
  rw [hg] at hw
  have et := text_at ss n hn
  have hno := line_no10 ss[n]
  have hlI := line_I ss[n]
  have hus := upto_succ ss n hn
  generalize hu : join (wordsS ss[n]) = u at hw et hno hlI hus ⊢
  have hd : (I (textB ss)).drop f = (u ++ [10]) ++ I (textB (ss.drop (n + 1))) := by
    rw [et, hf, List.drop_left]
  have hget : (I (textB ss)).getD i 0 = ((u ++ [10]) ++ I (textB (ss.drop (n + 1)))).getD (i - f) 0 := by
    rw [← hd]
    simp only [List.getD, List.getElem?_drop]
    rw [show f + (i - f) = i by omega]
  by_cases hend : i = f + u.length
  · left
    refine ⟨?_, hend, ?_, ?_⟩
    · rw [hget, hend, Nat.add_sub_cancel_left]
      simp [List.getD]
    · rw [hd, hlI, hend, show f + u.length + 1 - f = (u ++ [10]).length by simp; omega, List.take_left]
    · have hl1 : (upto ss (n + 1)).length = i + 1 := by rw [hus, List.length_append, ← hf, hend]; simp; omega
      refine ⟨hn, hl1.symm, Nat.le_refl _, fun _ => by omega, fun _ => rfl⟩
  · right
    have hlt : i - f < u.length := by omega
    refine ⟨?_, ⟨h.hn, hf, by omega, fun _ => by rw [hg, hu]; omega, fun h5 => by omega⟩⟩
    · rw [hget]
      have hm : ((u ++ [10]) ++ I (textB (ss.drop (n + 1)))).getD (i - f) 0 = u[i - f] := by
        simp only [List.getD]
        rw [List.append_assoc, List.getElem?_append_left hlt, List.getElem?_eq_getElem hlt]
        rfl
      rw [hm]
      intro e
      exact hno (e ▸ List.getElem_mem hlt)
end Lra
namespace Go.Proofs.YtdodfmgbjfhnpaaDoor
open Go.RowKit
set_option linter.unusedVariables false
set_option linter.unusedSimpArgs false

set_option maxRecDepth 100000 in
set_option maxHeartbeats 8000000 in
theorem law7 (a : Option Addr) (n c : Nat) (ss : List Lra.Stp) (w : World) (hn : ss.length = n) (hb : n ≤ 2199023255552) (hs : Steps w a ss) (hT : Tab w.heap.size w) :
    Calls Tryd.prog 7 #[.slice a n c] w fun e w' => e = .returned (.bool true) ∧ Below w.heap.size w w' := by
  have C9 := hid (size9 a n c ss w hn (by omega) hs)
  have CW := hid (fun (W : World) (hW : Below w.heap.size w W) => (works10 W (hT.on hW hW.size)).mono (R' := fun e w' => e = .returned (.bool true) ∧ Below w.heap.size w w') fun e w' q => ⟨q.1, hW.trans (q.2.mono hW.size)⟩)
  have C12 := hid (fun (W : World) (hW : Below w.heap.size w W) (h6 : ss.length + Lra.items ss ≤ 6000) => (write12 a n c ss W hn (by omega) (by omega) (hs.below hW) (hT.on hW hW.size)).mono (R' := fun e w' => WOut ss e ∧ Below w.heap.size w w') fun e w' q => ⟨q.1, hW.trans (q.2.mono hW.size)⟩)
  by_cases hm : ss.all Lra.may = true
  case neg =>
    have K12 := hid (fun (W : World) (hW : Below w.heap.size w W) (h6 : ss.length + Lra.items ss ≤ 6000) => (C12.out W hW h6).mono (R' := fun e w' => e = .returned (.tuple #[.string ⟨#[]⟩, .int .i64 40]) ∧ Below w.heap.size w w') fun e w' q => ⟨by
      have := q.1
      unfold WOut at this
      rw [if_neg hm, if_neg hm] at this
      exact this, q.2⟩)
    clear C12 hm hs hT hn hb
    go_enter Tryd.func7, Tryd.ntmps7
    go_wp2_with (first
      | (go_at_call 9; refine C9.out.mono ?_; clear C9; rintro e W1 ⟨⟨z, rfl, hz⟩, hb1⟩; have HB1 := hid hb1; have HZ := hid hz; clear hz hb1; rcases Nat.lt_or_ge 6000 z with h6 | h6 <;> first | have h6' : (6000 : Int) < z := by omega | have h6' : ¬ (6000 : Int) < z := by omega)
      | (go_at_call 12; refine (K12.out _ HB1.out (HZ.out (by omega))).mono ?_; rintro e W2 ⟨rfl, hb2⟩; have HB2 := hid hb2; clear hb2 K12)
      | (go_at_call 10; refine (CW.out _ (by first | exact HB2.out | exact HB1.out)).mono ?_; rintro e W9 ⟨rfl, hb9⟩; have HB9 := hid hb9; clear hb9))
    all_goals
      go_ret
      exact ⟨rfl, HB9.out⟩
  case pos =>
    have hlt := Lra.text_len ss hm
    have hsz : (⟨(Lra.textB ss).toArray⟩ : ByteArray).size = (Lra.textB ss).length := by simp [ByteArray.size]
    have HTI := hid (show Lra.ints ⟨(Lra.textB ss).toArray⟩ = Lra.I (Lra.textB ss) from rfl)
    have HTS := hid (show ss.length + Lra.items ss ≤ 6000 → (⟨(Lra.textB ss).toArray⟩ : ByteArray).size ≤ 600000 by rw [hsz]; omega)
    have K12 := hid (fun (W : World) (hW : Below w.heap.size w W) (h6 : ss.length + Lra.items ss ≤ 6000) => (C12.out W hW h6).mono (R' := fun e w' => e = .returned (.tuple #[.string ⟨(Lra.textB ss).toArray⟩, .int .i64 0]) ∧ Below w.heap.size w w') fun e w' q => ⟨by
      have := q.1
      unfold WOut at this
      rw [hm, if_pos rfl, if_pos rfl] at this
      exact this, q.2⟩)
    generalize (⟨(Lra.textB ss).toArray⟩ : ByteArray) = T at HTI HTS K12
    have HS := hid hs
    have HN := hid hn
    have HM := hid hm
    have sh := hs.shape
    rw [hn] at sh
    clear C12 hm hs hT hn hb hlt hsz
    rcases sh with Z | ⟨b, off, rfl⟩
    all_goals
      go_enter Tryd.func7, Tryd.ntmps7
      go_wp2_with (first
        | (go_at_call 9; refine C9.out.mono ?_; clear C9; rintro e W1 ⟨⟨z, rfl, hz⟩, hb1⟩; have HB1 := hid hb1; have HZ := hid hz; clear hz hb1; rcases Nat.lt_or_ge 6000 z with h6 | h6 <;> first | have h6' : (6000 : Int) < z := by omega | have h6' : ¬ (6000 : Int) < z := by omega)
        | (go_at_call 12; refine (K12.out _ HB1.out (HZ.out (by omega))).mono ?_; rintro e W2 ⟨rfl, hb2⟩; have HB2 := hid hb2; have hts := HTS.out (HZ.out (by omega)); have h6n := HZ.out (by omega); clear hb2 K12)
        | (go_at_call 10; refine (CW.out _ (by first | exact HB2.out | exact HB1.out)).mono ?_; rintro e W9 ⟨rfl, hb9⟩; have HB9 := hid hb9; clear hb9))
      · go_ret
        exact ⟨rfl, HB9.out⟩
      · have hts' : (T.size : Int) ≤ 600000 := by omega
        have HHT := hid (And.intro hts h6n)
        clear HZ h6n h6 hts
        go_loopw [5, 6, 7, 8, 9, 10] (fun nv fv iv _ _ _ wr => ∃ k f i : Nat, nv = .int .i64 k ∧ fv = .int .i64 f ∧ iv = .int .i64 i ∧ i ≤ T.size ∧ f ≤ i ∧ k ≤ n ∧ Hid (Lra.At ss k f i) ∧ Hid (Below w.heap.size w wr)) (fun _ _ iv _ _ _ _ => T.size - (intOf iv).toNat)
        case atStart => exact ⟨0, 0, 0, rfl, rfl, rfl, Nat.zero_le _, Nat.le_refl _, Nat.zero_le _, hid (Lra.At.start ss), HB2⟩
        case round =>
          obtain ⟨k, f, i, rfl, rfl, rfl, hi, hfi, hkn, HA, HB⟩ := hrel
          by_cases hlt : i < T.size
          · have hlt' : (i : Int) < T.size := by omega
            have hby := HA.out.byte (by rw [← HTI.out, Lra.ints_len]; exact hlt)
            rw [← HTI.out, Lra.ints_getD T i hlt] at hby
            obtain ⟨x, hx⟩ : ∃ x : Int, (T[i].toNat : Int) = x := ⟨_, rfl⟩
            rw [hx] at hby
            obtain ⟨hks, hby⟩ := hby
            have hkn' : k < n := by rw [← HN.out]; exact hks
            rcases hby with ⟨h10, hif, hline, hat⟩ | ⟨h10, hat⟩
            · first
              | (exfalso; have := Z.out; omega)
              | (have h10' : (x != 10) = false := by rw [h10]; rfl
                 have hmk : Lra.may ss[k] = true := List.all_eq_true.1 HM.out _ (List.getElem_mem hks)
                 have hpx : Lra.parse (Lra.ints (T.extract f (i + 1))) = .ok [ss[k]] := by
                   rw [Lra.ints_extract, hline]
                   have := Lra.parse_text [ss[k]] (by simp [hmk])
                   have e : Lra.textB [ss[k]] = Lra.lineB ss[k] := by simp [Lra.textB]
                   rw [e] at this
                   exact this
                 have hit : Lra.items [ss[k]] ≤ 1000000 := by
                   have h1 := Lra.item_le (List.getElem_mem hks)
                   have h2 := HHT.out.2
                   simp [Lra.items]; omega
                 have C15 := (parse15 (T.extract f (i + 1)) wr (by rw [ByteArray.size_extract]; have := HHT.out.1; omega)).mono (R' := fun e w' => ∃ b1 o1 c1 a1 d1 a2 d2, e = .returned (.tuple #[.slice (some ⟨b1, o1, none⟩) 1 c1, .int .i64 0, .int .i64 0]) ∧ StC w' b1 o1 ss[k] a1 d1 a2 d2 ∧ Below wr.heap.size wr w') (by
                   intro e w' q
                   rw [hpx] at q
                   obtain ⟨a', c', he, hs', _, _, hb'⟩ := q.room (by simp [hmk]) hit
                   rcases hs' with h0 | ⟨b1, o1, rfl, hst⟩
                   · cases h0
                   · obtain ⟨a1, d1, a2, d2, h3⟩ := hst 0 (by simp)
                     exact ⟨b1, o1, c', a1, d1, a2, d2, he, by simpa using h3, hb'⟩)
                 have K15 := hid C15
                 obtain ⟨e1, f1, e2, f2, hsl⟩ := (HS.out.below HB.out).at (j := k) hks
                 have HAT := hid hat
                 have HSL := hid hsl
                 have hie : (i : Int) + 1 ≤ T.size := by omega
                 have hfe : (f : Int) ≤ (i : Int) + 1 := by omega
                 have hkg : decide ((n : Int) ≤ (k : Int)) = false := decide_eq_false (by omega)
                 have hkg2 : decide (n ≤ k) = false := decide_eq_false (by omega)
                 have hk6 : (k : Int) ≤ 6000 := by have h1 := HHT.out.2; omega
                 generalize ss[k] = sx at K15 HSL
                 clear C15 hpx hit hmk hat hsl hline h10 hif
                 go_wp2_with (first
                   | (go_at_call 15; refine K15.out.mono ?_; clear K15; rintro e W3 ⟨b1, o1, c1, a1, d1, a2, d2, rfl, hst, hb3⟩; have HST := hid hst; have HB3 := hid hb3; clear hst hb3))
                 obtain ⟨x0, x1, x2, x3, hv⟩ := HST.out
                 obtain ⟨y0, y1, y2, y3, hu⟩ := HSL.out.below HB3.out
                 have hS : ∀ W, Below W3.heap.size W3 W → Below W3.heap.size W3 W ∧ W.cell? ⟨b1, o1, none⟩ = some (.int .u8 sx.kind) ∧ W.cell? ⟨b1, o1 + 1, none⟩ = some (.int .i64 sx.id) ∧ W.cell? ⟨b1, o1 + 2, none⟩ = some (.slice a1 sx.lits.length d1) ∧ W.cell? ⟨b1, o1 + 3, none⟩ = some (.slice a2 sx.hints.length d2) ∧
                     W.cell? ⟨b, off + k * 4, none⟩ = some (.int .u8 sx.kind) ∧ W.cell? ⟨b, off + k * 4 + 1, none⟩ = some (.int .i64 sx.id) ∧ W.cell? ⟨b, off + k * 4 + 2, none⟩ = some (.slice e1 sx.lits.length f1) ∧ W.cell? ⟨b, off + k * 4 + 3, none⟩ = some (.slice e2 sx.hints.length f2) := fun W h =>
                   ⟨h, (h.cell (p := ⟨b1, o1, none⟩) (cell_lt x0)).trans x0, (h.cell (p := ⟨b1, o1 + 1, none⟩) (cell_lt x0)).trans x1, (h.cell (p := ⟨b1, o1 + 2, none⟩) (cell_lt x0)).trans x2, (h.cell (p := ⟨b1, o1 + 3, none⟩) (cell_lt x0)).trans x3,
                    (h.cell (p := ⟨b, off + k * 4, none⟩) (cell_lt y0)).trans y0, (h.cell (p := ⟨b, off + k * 4 + 1, none⟩) (cell_lt y0)).trans y1, (h.cell (p := ⟨b, off + k * 4 + 2, none⟩) (cell_lt y0)).trans y2, (h.cell (p := ⟨b, off + k * 4 + 3, none⟩) (cell_lt y0)).trans y3⟩
                 have C := hid (fun (W : World) (h : Below W3.heap.size W3 W) => (sameStep18 sx sx a1 d1 a2 d2 e1 f1 e2 f2 W (hv.below h) (hu.below h)).mono (R' := fun e w' => e = .returned (.bool true) ∧ Below W3.heap.size W3 w') fun e w' q => ⟨by rw [q.1]; simp, h.trans (q.2.mono h.size)⟩)
                 unfold sval at C
                 clear x0 x1 x2 x3 y0 y1 y2 y3 hv hu HST HSL
                 generalize sx.lits.length = n1 at hS C
                 generalize sx.hints.length = n2 at hS C
                 generalize sx.kind = sk at hS C
                 generalize sx.id = si at hS C
                 have HST := hid hS
                 have KK := hid (hS W3.drew (Below.refl _ _).drew)
                 clear hS
                 go_region_held3 (fun W => Below W3.heap.size W3 W ∧ W.cell? ⟨b1, o1, none⟩ = some (.int .u8 sk) ∧ W.cell? ⟨b1, o1 + 1, none⟩ = some (.int .i64 si) ∧ W.cell? ⟨b1, o1 + 2, none⟩ = some (.slice a1 n1 d1) ∧ W.cell? ⟨b1, o1 + 3, none⟩ = some (.slice a2 n2 d2) ∧
                     W.cell? ⟨b, off + k * 4, none⟩ = some (.int .u8 sk) ∧ W.cell? ⟨b, off + k * 4 + 1, none⟩ = some (.int .i64 si) ∧ W.cell? ⟨b, off + k * 4 + 2, none⟩ = some (.slice e1 n1 f1) ∧ W.cell? ⟨b, off + k * 4 + 3, none⟩ = some (.slice e2 n2 f2))
                   (first | exact KK.out | exact HST.out _ hb8)
                   (first | (go_at_call 18; refine (C.out _ ?_).mono ?_; (first | exact (Below.refl _ _).drew | exact hb8); rintro e w8 ⟨rfl, hb8⟩))
                 have HB8 := hid (HB.out.trans ((HB3.out.mono HB.out.size).trans (hb8.mono (Nat.le_trans HB.out.size HB3.out.size))))
                 clear hb8 KK HST C
                 go_wp2
                 go_roundw
                 case rel => exact ⟨k + 1, i + 1, i + 1, by go_num, by go_num, by go_num, by omega, Nat.le_refl _, by omega, HAT, HB8⟩
                 case measure => simp [intOf]; omega)
            · have h10' : (x != 10) = true := by simpa using h10
              have HAT := hid hat
              clear h10 hat
              go_wp2
              go_roundw
              case rel => exact ⟨k, f, i + 1, rfl, rfl, by go_num, by omega, by omega, hkn, HAT, HB⟩
              case measure => simp [intOf]; omega
          · have hlt' : ¬ (i : Int) < T.size := by omega
            have hend : k = n ∧ f = T.size := by
              have h1 := HA.out
              have h2 : (Lra.I (Lra.textB ss)).length = T.size := by rw [← HTI.out, Lra.ints_len]
              rcases Nat.lt_or_ge k ss.length with h3 | h3
              · exfalso
                have h4 := h1.hw h3
                have h5 := Lra.text_at ss k h3
                have h6 := congrArg List.length h5
                rw [List.length_append, ← h1.hf, h2] at h6
                rw [show ss.getD k ⟨0, 0, [], []⟩ = ss[k] by simp [List.getD, List.getElem?_eq_getElem h3]] at h4
                simp only [List.length_append, List.length_cons, List.length_nil] at h6
                omega
              · have h4 : k = ss.length := Nat.le_antisymm h1.hn h3
                have h5 := h1.hf
                unfold Lra.upto at h5
                rw [h4, List.take_length] at h5
                exact ⟨by rw [h4, HN.out], by omega⟩
            obtain ⟨rfl, hfT⟩ := hend
            have hfT' : (f : Int) = T.size := by omega
            go_wp2_with (go_at_call 10; refine (CW.out _ HB.out).mono ?_; rintro e W9 ⟨rfl, hb9⟩; have HB9 := hid hb9; clear hb9)
            go_ret
            exact ⟨rfl, HB9.out⟩
end Go.Proofs.YtdodfmgbjfhnpaaDoor
