/- ArenaPlays. -/
import Derived.Test.YtblogmelmpkfhaaOne
import Derived.Test.YtblogmelmpkfhaaRowz
namespace Go.Proofs.Ytblogmelmpkfhaa
open Go.RowKit Go.Maps
set_option linter.unusedVariables false
set_option maxRecDepth 100000
theorem Stps.at {W : World} {a : Option Addr} {ss : List Arn.Stp} (h : Stps W a ss) {j : Nat} (hj : j < ss.length) : ∃ b off a' cap', a = some ⟨b, off, none⟩ ∧ b < W.heap.size ∧ StpOk W ss[j] a' ∧ ∀ t v, (sval ss[j] a' cap')[t]? = some v → W.cell? ⟨b, off + j * 8 + t, none⟩ = some v := by
  rcases h with h | ⟨b, off, e, hl, hc⟩
  · rw [h] at hj; simp at hj
  · obtain ⟨a', cap', h1, h2⟩ := hc j hj
    exact ⟨b, off, a', cap', e, hl, h1, h2⟩
theorem Stps.shape {W : World} {a : Option Addr} {ss : List Arn.Stp} (h : Stps W a ss) : ss.length = 0 ∨ ∃ b off, a = some ⟨b, off, none⟩ := by
  rcases h with h | ⟨b, off, e, _⟩
  · left; rw [h]; rfl
  · exact .inr ⟨b, off, e⟩
theorem litSum_le : ∀ (l : List Arn.Stp) (j : Nat) (hj : j < l.length), l[j].lits.length ≤ Arn.litSum l
  | s :: l, 0, _ => by simp [Arn.litSum]
  | s :: l, j + 1, hj => by
    have := litSum_le l j (by simpa using hj)
    simp [Arn.litSum] at this ⊢
    omega
set_option maxHeartbeats 8000000 in
theorem law3 (limit : Int) (aa : Option Addr) (la ca : Nat) (za : List Arn.Stp) (W : World) (hla : za.length = la) (hna : la ≤ 2199023255552) (wa : Stps W aa za) :
    Calls Try.prog 3 #[.int .i64 limit, .slice aa la ca] W fun e w' => e = .returned (.bool true) ∧ Below W.heap.size W w' := by
  have C7 := hid (few7 (cap := ca) hla hna wa)
  have WA := hid wa
  have HLA := hid hla
  have hsha : la = 0 ∨ ∃ b off, aa = some ⟨b, off, none⟩ := by rw [← hla]; exact wa.shape
  clear wa hla
  go_enter Try.func3, Try.ntmps3
  go_wp2_with (fail)
  go_at_call 7
  refine C7.out.mono ?_
  clear C7
  rintro e w1 ⟨b1, rfl, hf1, hd1⟩
  cases b1
  · go_wp2
    go_ret
    exact ⟨rfl, hd1⟩
  have hla60 := (hf1 rfl).1
  have HNU := hid (hf1 rfl).2
  rw [HLA.out] at hla60
  have HD1 := hid hd1
  have HW1 := hid (WA.out.below hd1)
  clear hf1 hd1
  have C8 := hid (new8 limit w1)
  have C9 := hid (fun (X : World) => new9 limit X)
  go_wp2_with (fail)
  go_at_call 8
  refine C8.out.mono ?_
  rintro e w2 ⟨⟨ab, rfl, ha2⟩, hb2⟩
  have HA2 := hid ha2
  have HB2 := hid hb2
  clear C8 ha2 hb2
  go_wp2_with (fail)
  go_at_call 9
  refine (C9.out w2).mono ?_
  rintro e w3 ⟨⟨db, rfl, hd3⟩, hb3⟩
  have HP3 := hid (show Pr w1.heap.size ab db (Arn.limOf limit) [] w1 w3 from ⟨HA2.out.below hb3, by
    obtain ⟨v, E, h, e⟩ := hd3
    exact ⟨v, E, ⟨Nat.le_trans HB2.out.size h.ndb, h.blk, own_base h.own HB2.out.size, h.lits, h.ok, h.fit, h.lim, h.caps⟩, e⟩, HB2.out.trans (hb3.mono HB2.out.size)⟩)
  clear C9 hd3 hb3 HA2 HB2
  generalize Arn.limOf limit = lim at *
  go_wp2_with (fail)
  go_loopw [7] (fun i wr => ∃ (k : Nat) (M : List Arn.It), k ≤ la ∧ i = .int .i64 k ∧ Hid (Pr w1.heap.size ab db lim M w1 wr)) (fun i _ => la - (intOf i).toNat)
  case atStart => exact ⟨0, _, Nat.zero_le _, rfl, HP3⟩
  case round =>
    clear HP3
    obtain ⟨k, M, hk, rfl, HP⟩ := hrel
    by_cases hlt : k < la
    · have hlt' : (k : Int) < la := by omega
      have hks : k < za.length := by rw [HLA.out]; exact hlt
      obtain ⟨b, off, a', c', rfl, hbl, hok1, hc⟩ := HW1.out.at hks
      have hok : StpOk wr za[k] a' := ⟨hok1.lits.below HP.out.b, hok1.len, hok1.id, hok1.r, hok1.i, hok1.k, hok1.kind⟩
      have hcc : ∀ t v, (sval za[k] a' c')[t]? = some v → wr.cell? ⟨b, off + k * 8 + t, none⟩ = some v := fun t v hv => (HP.out.b.cell (p := ⟨b, off + k * 8 + t, none⟩) hbl).trans (hc t v hv)
      have x0 := hcc 0 _ rfl
      have x1 := hcc 1 _ rfl
      have x2 := hcc 2 _ rfl
      have x3 := hcc 3 _ rfl
      have x4 := hcc 4 _ rfl
      have x5 := hcc 5 _ rfl
      have x6 := hcc 6 _ rfl
      have x7 := hcc 7 _ rfl
      rw [Nat.add_zero] at x0
      have C10 := hid (one10 HP.out (Nat.le_refl _) za[k] a' c' hok (Nat.le_trans (litSum_le za k hks) HNU.out) (fun Y hY => hok1.lits.below hY))
      clear hok hok1 hsha hc hcc
      generalize za[k].lits.length = tl at *
      generalize za[k].kind = kd at *
      generalize za[k].id = dd at *
      generalize za[k].red = rd at *
      generalize za[k].r = rr at *
      generalize za[k].loose = lz at *
      generalize za[k].i = ii at *
      generalize za[k].k = kk at *
      go_wp2_with (fail)
      go_at_call 10
      refine C10.out.mono ?_
      rintro e w5 ⟨rfl, M', h5⟩
      obtain ⟨q1, q2, q3⟩ := h5.a.refs_ok
      have C11 := hid (tells11 h5.a h5.d q1 q2 q3)
      have H5 := hid h5
      clear C10 h5 HP x0 x1 x2 x3 x4 x5 x6 x7 q1 q2 q3
      go_wp2_with (fail)
      go_at_call 11
      refine C11.out.mono ?_
      rintro e w6 ⟨rfl, hb6⟩
      have H6 := hid (H5.out.below (Nat.le_refl _) hb6)
      clear C11 hb6 H5
      go_wp2
      go_roundw
      case rel => exact ⟨k + 1, M', by omega, by go_num, H6⟩
      case measure => simp only [intOf]; omega
    · have hge : ¬ (k : Int) < la := by omega
      have C12 := hid (works12 wr)
      go_wp2_with (fail)
      go_at_call 12
      refine C12.out.mono ?_
      rintro e w7 ⟨rfl, hb7⟩
      have HO := hid (HD1.out.trans ((HP.out.b.trans (hb7.mono HP.out.b.size)).mono HD1.out.size))
      clear C12 hb7 HP
      go_wp2
      go_ret
      exact ⟨rfl, HO.out⟩
end Go.Proofs.Ytblogmelmpkfhaa
