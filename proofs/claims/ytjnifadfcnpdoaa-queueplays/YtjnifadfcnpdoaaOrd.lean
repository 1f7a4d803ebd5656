/- Order. -/
import Derived.Test.YtjnifadfcnpdoaaQuI
namespace Go.Proofs.Ytjnifadfcnpdoaa.Qp
theorem Ch.next {bh ah : List Nat} : ∀ {L : List Nat} {a : Nat}, Ch bh ah a L 0 → ∀ k, k < L.length → bh.getD (L.getD k 0) 0 = L.getD (k + 1) 0
  | [], a, h, k, hk => by simp at hk
  | [x], a, h, k, hk => by
    have : k = 0 := by simp at hk; omega
    subst this
    exact h.2.1
  | x :: y :: L, a, h, k, hk => by
    cases k with
    | zero => exact h.2.1.1
    | succ k => exact Ch.next (L := y :: L) h.2 k (by simp at hk ⊢; omega)
theorem Ch.prev {bh ah : List Nat} {b : Nat} : ∀ {L : List Nat} {a : Nat}, Ch bh ah a L b → ∀ k, k < L.length → ah.getD (L.getD k 0) 0 = (a :: L).getD k 0
  | [], a, h, k, hk => by simp at hk
  | x :: L, a, h, k, hk => by
    cases k with
    | zero => exact h.1.2
    | succ k => exact Ch.prev (L := L) h.2 k (by simp at hk ⊢; omega)
end Go.Proofs.Ytjnifadfcnpdoaa.Qp
namespace Go.Proofs.Ytjnifadfcnpdoaa
open Go.RowKit Go.Maps
set_option linter.unusedVariables false
set_option maxRecDepth 100000

theorem app32 {W : World} {base n : Nat} {va : Value} {L : List Nat} (h : W.ownsRow base 3 1 va n (inn L)) (hbs : base ≤ W.heap.size) (u : Nat) (hn : n ≤ 1048576) :
    ∃ g c X, (Builtin.append_ #[32, 32] 32 #[va, .slice (some ⟨W.heap.size, 0, none⟩) 1 1]).run Try.prog (W.alloc (.cells #[.int .i64 (u : Int)] 3)) = .ok (.slice (some ⟨g, 0, none⟩) (n + 1) c) X ∧ X.ownsRow base 3 1 (.slice (some ⟨g, 0, none⟩) (n + 1) c) (n + 1) (inn (L ++ [u])) ∧ Below base W X := by
  obtain ⟨i0, hi, hz⟩ := Option.map_eq_some_iff.1 info3
  simp only [Prod.mk.injEq] at hz
  have hal := below_box W (.cells #[.int .i64 (u : Int)] 3)
  have hsz : (W.alloc (.cells #[.int .i64 (u : Int)] 3)).heap.size = W.heap.size + 1 := by simp
  obtain ⟨g, c, X, hr, hown, hgr, hat, hlt⟩ := run_append_lies (P := Try.prog) (W.alloc (.cells #[.int .i64 (u : Int)] 3)) 32 32 base 3 i0 _ 1 8 Try.underlying32 hi hz.1 hz.2.1 hz.2.2 rfl (by decide) va n _ (own_below h hal)
    ⟨W.heap.size, 0, none⟩ 1 1 [.int .i64 (u : Int)] rfl (World.news_of_block (heap_alloc_new W (.cells #[.int .i64 (u : Int)] 3))) (by intro u hu; rw [List.mem_singleton.1 hu]; rfl) (by decide) (by unfold maxLen; omega) (by omega) (by rw [hsz]; omega) _ hsz
  refine ⟨g, c, X, hr, by rw [show inn (L ++ [u]) = inn L ++ [.int .i64 (u : Int)] by simp [inn]]; exact hown, (hal.mono hbs).trans ⟨hgr.os, hgr.tape, hgr.output, hgr.size, fun q hq => hgr.block q (by omega) (fun e => ?_)⟩⟩
  have := (own_blk h e.symm).1
  omega
def OrdOut (W : World) (L : List Nat) (e : Ending) (w' : World) : Prop := ∃ o c, e = .returned (.slice o L.length c) ∧ w'.ownsRow W.heap.size 3 1 (.slice o L.length c) L.length (inn L) ∧ Below W.heap.size W w'
theorem meas2 {k t : Nat} (h : k < t) : t - (k + 1) < t - k := by omega
set_option maxHeartbeats 4000000 in
theorem order16 {A : Adr} {n : Nat} {K : Int} {L : List Nat} {st : List Int} {W : World} (H : Qx A n K L st W) :
    Calls Try.prog 16 #[.pointer (some ⟨A.qb, 0, none⟩)] W fun e w' => OrdOut W L e w' := by
  obtain ⟨ah, bh, rk, lk, h1, h2⟩ := H
  have hmx := h2.mx
  have CZ := hid (size23 h1 (by omega) (by omega))
  rcases Nat.eq_zero_or_pos n with h0 | h0
  · subst h0
    have hL : L = [] := by
      cases L with
      | nil => rfl
      | cons x L => have := h2.rg x (.head _); omega
    subst hL
    have hz : ((0 + 1 : Nat) : Int) - 1 = 0 := by omega
    rw [hz] at CZ
    have HO := hid (show OrdOut W [] (.returned (.slice none 0 0)) W from ⟨none, 0, rfl, World.ownsRow_nil _ _ _ _, Below.refl _ _⟩)
    clear h1 h2 hmx hz
    go_enter Try.func16, Try.ntmps16
    go_wp2_with (go_at_call 23; refine CZ.out.mono ?_; rintro e w4 ⟨rfl, hw4⟩; rw [hw4]; clear hw4)
    go_ret
    exact HO.out
  · have hz : ((n + 1 : Nat) : Int) - 1 = n := by omega
    rw [hz] at CZ
    have hn0 : ((n : Int) == 0) = false := by simp; omega
    have hnn : ¬ (n : Int) < 0 := by omega
    obtain ⟨i1, hi1, hz1⟩ := Option.map_eq_some_iff.1 info3
    simp only [Prod.mk.injEq] at hz1
    have hmj := run_makeSlice (P := Try.prog) W 32 3 i1 _ Try.underlying32 hi1 hz1.1 .i64 .i64 0 (n : Int) (by omega) (by omega) (by rw [hz1.2.1]; omega) (by rw [hz1.2.2]; omega) (by omega)
    simp only [hz1.2.1, Int.toNat_natCast, Nat.mul_one, Int.toNat_zero] at hmj
    obtain ⟨zz, hzz⟩ : ∃ zz, madeCells (Value.int .i64 0).cells n = zz := ⟨_, rfl⟩
    rw [hzz] at hmj
    have hlz : zz.size = n := by rw [← hzz]; simp [madeCells, Value.cells]
    have HS := hid (show (W.alloc (.cells zz 3)).ownsRow W.heap.size 3 1 (.slice (some ⟨W.heap.size, 0, none⟩) 0 n) 0 (inn []) from own_mk (Nat.le_refl _) (heap_alloc_new W _) (Nat.zero_le _) (by unfold maxLen; omega) hlz (by simp [inn]))
    have HQ := hid h1
    have HG := hid h2
    have hch := h2.ch.first
    have b0 := (own_cell h1.bhs (k := 0) (by omega)).1
    rw [inn_at (by have := h1.len; omega)] at b0
    have c1 := row_cell h1.blk 1
    have X1 := hid (fun (w : World) (hb : Below W.heap.size W w) => show w.cell? ⟨A.qb, 1, none⟩ = some (.slice (some ⟨A.gb, 0, none⟩) (n + 1) A.cb) ∧ ∀ k, k < L.length → w.cell? ⟨A.gb, L.getD k 0, none⟩ = some (.int .i64 ((L.getD (k + 1) 0 : Nat) : Int)) ∧ L.getD k 0 < n + 1 ∧ (((L.getD k 0 : Nat) : Int) != 0) = true from by
      refine ⟨row_cell (h1.below hb).blk 1, fun k hk => ?_⟩
      have hv : L.getD k 0 ∈ L := by rw [List.getD_eq_getElem?_getD, List.getElem?_eq_getElem hk]; exact List.getElem_mem hk
      have hr := h2.rg _ hv
      refine ⟨?_, by omega, by rw [bne_iff_ne]; omega⟩
      rw [(own_cell (h1.below hb).bhs (k := L.getD k 0) (by omega)).1, inn_at (by have := h1.len; omega), h2.ch.next k hk])
    have hf : bh.getD 0 0 = L.getD 0 0 := by rw [hch]; cases L <;> rfl
    rw [hf] at b0
    have hlen : L.length ≤ n := by
      have := List.Nodup.length_le_of_subset (l₂ := List.range' 1 n) h2.nd (fun x hx => by have := h2.rg x hx; rw [List.mem_range'_1]; omega)
      simpa using this
    have HLN := hid hlen
    obtain ⟨m, hm⟩ : ∃ m, n + 1 = m := ⟨_, rfl⟩
    rw [hm] at X1 c1
    have h0m : (0 : Int) < m := by omega
    have hmm := hid (show n ≤ 1048576 by omega)
    have hB1 := below_box W (.cells zz 3)
    obtain ⟨xa, _⟩ := X1.out _ hB1
    have xb := (hB1.cell (p := ⟨A.gb, 0, none⟩) (cell_lt b0)).trans b0
    have HB1 := hid hB1
    clear h1 h2 hmx hz hi1 hz1 hzz hlz hch hf hlen hm hB1 b0 c1
    go_enter Try.func16, Try.ntmps16
    go_wp2_with (go_at_call 23; refine CZ.out.mono ?_; rintro e w4 ⟨rfl, hw4⟩; rw [hw4]; clear hw4)
    obtain ⟨X, hX⟩ : ∃ X, W.alloc (.cells zz 3) = X := ⟨_, rfl⟩
    rw [hX] at HB1 HS ⊢
    go_loopw [4, 5] (fun ov i wr => ∃ k : Nat, k ≤ L.length ∧ i = .int .i64 ((L.getD k 0 : Nat) : Int) ∧ Hid (wr.ownsRow W.heap.size 3 1 ov k (inn (L.take k)) ∧ Below W.heap.size W wr)) (fun ov _ _ => L.length - (match ov with | .slice _ l _ => l | _ => 0))
    case atStart => exact ⟨0, Nat.zero_le _, rfl, hid ⟨HS.out, HB1.out⟩⟩
    case round =>
      obtain ⟨k, hk, rfl, HR⟩ := hrel
      obtain ⟨oo, cc, hoo⟩ := own_slc HR.out.1
      by_cases hlt : k < L.length
      · obtain ⟨y0, y1⟩ := X1.out _ HR.out.2
        obtain ⟨y1, y2, y3⟩ := y1 k hlt
        obtain ⟨g, c9, X9, hr, ho, hbl⟩ := app32 HR.out.1 HR.out.2.size (L.getD k 0) (by have := HLN.out; have := hmm.out; omega)
        have HN := hid (show X9.ownsRow W.heap.size 3 1 (.slice (some ⟨g, 0, none⟩) (k + 1) c9) (k + 1) (inn (L.take (k + 1))) ∧ Below W.heap.size W X9 from ⟨by rw [Qp.take_snoc L hlt]; exact ho, HR.out.2.trans hbl⟩)
        obtain ⟨z0, z1⟩ := X1.out _ HN.out.2
        obtain ⟨z1, _, _⟩ := z1 k hlt
        rw [hoo] at hr
        have HRN := hid hr
        have y2' : ((L.getD k 0 : Nat) : Int) < m := by omega
        have y4 : ¬ ((L.getD k 0 : Nat) : Int) < 0 := by omega
        clear HR hr ho hbl y2
        subst hoo
        generalize hv : L.getD k 0 = v at *
        generalize hu : L.getD (k + 1) 0 = u at *
        go_wp2_with (at_builtin; refine wpList_append_run rfl (.tmp 27) (.tmp 29) 32 32 rfl rfl rfl HRN.out ?_)
        go_roundw
        case rel => exact ⟨k + 1, hlt, by rw [hu], HN⟩
        case measure => exact meas2 hlt
      · have HO := hid (show OrdOut W L (.returned (.slice oo k cc)) wr from by
          have hkl : k = L.length := by omega
          have q1 := HR.out.1
          rw [hoo, List.take_of_length_le (by omega)] at q1
          rw [hkl] at q1 ⊢
          exact ⟨oo, cc, rfl, q1, HR.out.2⟩)
        have h9 : L.getD k 0 = 0 := by rw [List.getD_eq_getElem?_getD, List.getElem?_eq_none (by omega)]; rfl
        rw [h9]
        clear HR
        subst hoo
        go_wp2
        go_ret
        exact HO.out
end Go.Proofs.Ytjnifadfcnpdoaa
