/- TrailPlays. -/
import Derived.Test.YtckpahdlcdgbpaaTel
namespace Go.Proofs.Ytckpahdlcdgbpaa
open Go.RowKit Go.Maps
set_option linter.unusedVariables false
set_option maxRecDepth 100000
theorem Trl.nums_le : ∀ (l : List Trl.Stp) (j : Nat) (hj : j < l.length), l[j].to.length ≤ Trl.nums l
  | s :: l, 0, _ => by simp [Trl.nums]
  | s :: l, j + 1, hj => by
    have := Trl.nums_le l j (by simpa using hj)
    simp [Trl.nums]
    omega
theorem Row.low {k : IntKind} {lo hi : Int} {W w' : World} {a : Option Addr} {xs : List Int} (h : Row k lo hi W a xs) (hs : W.heap.size ≤ w'.heap.size) (hb : ∀ g, g < W.heap.size → w'.heap[g]? = W.heap[g]?) : Row k lo hi w' a xs := by
  refine ⟨h.1, ?_⟩
  rcases h.2 with h | ⟨b, off, e, hl, hc⟩
  · exact .inl h
  · exact .inr ⟨b, off, e, by omega, fun j hj => (World.cell?_of_block (w := W) (a := ⟨b, off + j, none⟩) (hb b hl)).trans (hc j hj)⟩
theorem stays_low {W Y : World} {a : Option Addr} {xs : List Int} (h : Hnts W a xs) (hb : Below W.heap.size W Y) : StaysD W.heap.size Y a xs := by
  intro w' hf
  refine h.low (Nat.le_trans hb.size hf.size) (fun g hg => ?_)
  obtain ⟨o, ho⟩ : ∃ o, Y.heap[g]? = some o := ⟨_, Array.getElem?_eq_getElem (Nat.lt_of_lt_of_le hg hb.size)⟩
  rw [hf.block g o ho (.inl hg), ← ho, hb.block g hg]
theorem Dtx.low {B B' db n : Nat} {s : Trl.S} {W : World} (h : Dtx B db n s W) (hb : B' ≤ B) : Dtx B' db n s W := by
  obtain ⟨v, h⟩ := h
  exact ⟨v, Nat.le_trans hb h.ndb, h.blk, own_base h.own hb, h.ok⟩
set_option maxHeartbeats 8000000 in
theorem law3 (vars : Int) (aa : Option Addr) (la ca : Nat) (za : List Trl.Stp) (W : World) (hv : I64 vars) (hla : za.length = la) (hna : la ≤ 8796093022208) (wa : Stps W aa za) :
    Calls Try.prog 3 #[.int .i64 vars, .slice aa la ca] W fun e w' => e = .returned (.bool true) ∧ Below W.heap.size W w' := by
  have C7 := hid (few7 aa la ca za W hla hna wa)
  have WA := hid wa
  have HLA := hid hla
  have hsha : la = 0 ∨ ∃ b off, aa = some ⟨b, off, none⟩ := by rw [← hla]; exact wa.shape
  clear wa hla
  go_enter Try.func3, Try.ntmps3
  go_wp2_with (fail)
  go_at_call 7
  refine C7.out.mono ?_
  clear C7
  rintro e w1 ⟨⟨b1, rfl, hf1⟩, hd1⟩
  cases b1
  · go_wp2
    go_ret
    exact ⟨rfl, hd1.below⟩
  have hla60 := (hf1 rfl).1
  have HNU := hid (hf1 rfl).2
  rw [HLA.out] at hla60
  have HD1 := hid hd1.below
  have HW1 := hid (WA.out.below hd1.below)
  clear hf1 hd1
  by_cases hno : vars < 0 ∨ 1048576 < vars
  · have C8 := hid (new8_no vars w1 hno)
    have C9 := hid (new9_no vars w1 hno)
    have C10 := hid (works10 w1)
    clear hno
    go_wp2_with (fail)
    go_at_call 8
    refine C8.out.mono ?_
    rintro e w2 ⟨rfl, hw2⟩
    rw [hw2]
    clear hw2 C8
    go_wp2_with (fail)
    go_at_call 9
    refine C9.out.mono ?_
    rintro e w2 ⟨rfl, hw2⟩
    rw [hw2]
    clear hw2 C9
    go_wp2_with (fail)
    go_at_call 10
    refine C10.out.mono ?_
    rintro e w3 ⟨rfl, hb3⟩
    go_wp2
    go_ret
    exact ⟨rfl, HD1.out.trans (hb3.mono HD1.out.size)⟩
  · obtain ⟨n, rfl⟩ : ∃ n : Nat, vars = n := ⟨vars.toNat, by omega⟩
    have hn : n ≤ 1048576 := by omega
    have C8 := hid (new8 n w1 hn)
    have C9 := hid (fun (X : World) => new9 n X hn)
    clear hno hn hv
    go_wp2_with (fail)
    go_at_call 8
    refine C8.out.mono ?_
    rintro e w2 ⟨tb, rfl, ht2, hb2⟩
    have HT2 := hid ht2
    have HB2 := hid hb2
    clear C8 ht2 hb2
    go_wp2_with (fail)
    go_at_call 9
    refine (C9.out w2).mono ?_
    rintro e w3 ⟨db, rfl, hd3, hb3⟩
    have HP3 := hid (show Pr w1.heap.size tb db n ⟨[], [], 0⟩ w1 w3 from ⟨HT2.out.below hb3, hd3.low HB2.out.size, HB2.out.trans (hb3.mono HB2.out.size)⟩)
    clear C9 hd3 hb3 HT2 HB2
    go_wp2_with (fail)
    go_loopw [9] (fun i wr => ∃ (k : Nat) (s : Trl.S), k ≤ la ∧ i = .int .i64 k ∧ Hid (Pr w1.heap.size tb db n s w1 wr)) (fun i _ => la - (intOf i).toNat)
    case atStart => exact ⟨0, _, Nat.zero_le _, rfl, HP3⟩
    case round =>
      clear HP3
      obtain ⟨k, s, hk, rfl, HP⟩ := hrel
      by_cases hlt : k < la
      · have hlt' : (k : Int) < la := by omega
        have hks : k < za.length := by rw [HLA.out]; exact hlt
        obtain ⟨b, off, a', c', rfl, hok, x0, x1, x2, x3⟩ := (HW1.out.below HP.out.b).at hks
        have hH : Hnts w1 a' za[k].to := by
          obtain ⟨b2, off2, a2, c2, e2, hok2, y0, y1, y2, y3⟩ := HW1.out.at hks
          cases e2
          have y3' := (HP.out.b.cell (p := ⟨b, off + k * 4 + 3, none⟩) (cell_lt y3)).trans y3
          rw [x3] at y3'
          cases y3'
          exact hok2.to
        have C11 := hid (one11 HP.out (Nat.le_refl _) za[k] a' c' hok (Nat.le_trans (Trl.nums_le za k hks) (Nat.le_trans HNU.out (by decide))) (fun Y hY => stays_low hH hY))
        clear hok hsha hH
        generalize za[k].to.length = tl at *
        generalize za[k].kind = kd at *
        generalize za[k].l = ll at *
        generalize za[k].n = nn at *
        go_wp2_with (fail)
        go_at_call 11
        refine C11.out.mono ?_
        rintro e w5 ⟨rfl, s', h5⟩
        have C12 := hid (tells12 h5 (Nat.le_refl _))
        clear C11 h5 HP x0 x1 x2 x3
        go_wp2_with (fail)
        go_at_call 12
        refine C12.out.mono ?_
        rintro e w6 ⟨rfl, h6⟩
        have H6 := hid h6
        clear C12 h6
        go_wp2
        go_roundw
        case rel => exact ⟨k + 1, s', by omega, by go_num, H6⟩
        case measure => simp only [intOf]; omega
      · have hge : ¬ (k : Int) < la := by omega
        have C10 := hid (works10 wr)
        go_wp2_with (fail)
        go_at_call 10
        refine C10.out.mono ?_
        rintro e w7 ⟨rfl, hb7⟩
        have HO := hid (HD1.out.trans ((HP.out.b.trans (hb7.mono HP.out.b.size)).mono HD1.out.size))
        clear C10 hb7 HP
        go_wp2
        go_ret
        exact ⟨rfl, HO.out⟩
end Go.Proofs.Ytckpahdlcdgbpaa
