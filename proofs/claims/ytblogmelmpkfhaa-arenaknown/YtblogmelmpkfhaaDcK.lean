/- The document's Kill, Mark, Shrink. -/
import Derived.Test.YtblogmelmpkfhaaDcT
import Derived.Test.YtblogmelmpkfhaaShr
namespace Go.Proofs.Ytblogmelmpkfhaa
open Go.RowKit Go.Maps
set_option linter.unusedVariables false

/-- The document's arena, wherever its rows lie. -/
def Dcx (n db lim : Nat) (M : List Arn.It) (W : World) : Prop := ∃ v E, Dc n db lim v E W ∧ items E = M
def DidD (n db lim : Nat) (W : World) (M' : List Arn.It) (w' : World) : Prop := Dcx n db lim M' w' ∧ Fr pD n W w'
theorem Dcx.below {n db lim : Nat} {M : List Arn.It} {W W' : World} (h : Dcx n db lim M W) (hb : Below W.heap.size W W') : Dcx n db lim M W' := by
  obtain ⟨v, E, h, e⟩ := h
  exact ⟨v, E, h.below hb, e⟩
theorem DidD.below {n db lim : Nat} {M : List Arn.It} {W W' : World} (h : Dcx n db lim M W) (hb : Below W.heap.size W W') : DidD n db lim W M W' := ⟨h.below hb, Fr.of_below hb⟩
/-- The clause that find tells, as it lies. -/
theorem Dc.hit {n db lim : Nat} {v : Value} {E : List En} {W : World} (h : Dc n db lim v E W) {i : Nat} {x : Arn.It} (hx : (items E)[i]? = some x) : ∃ (g c : Nat) (a : Option Addr) (cap : Nat), v = .slice (some ⟨g, 0, none⟩) E.length c ∧ E[i]? = some (x, a, cap) ∧ i < E.length ∧ E.length ≤ 67108864 ∧ n ≤ g ∧ x.ok ∧ x.room ≤ 268435456 ∧ Arn.size ((items E).take i) ≤ 268435456 := by
  unfold items at hx
  rw [List.getElem?_map] at hx
  obtain ⟨e, he, rfl⟩ := Option.map_eq_some_iff.1 hx
  have hi := (List.getElem?_eq_some_iff.1 he).1
  obtain ⟨g, c, e5, hg, _⟩ := h.own.form (by omega)
  obtain ⟨hok1, hok2⟩ : e.1.ok ∧ True := ⟨h.ok e.1 (List.mem_map.2 ⟨e, List.mem_of_getElem? he, rfl⟩), trivial⟩
  have hat := Arn.at_take h.ok (items_at he)
  have hlt := Arn.at_lt h.ok hat.1
  have := h.fit
  have := h.lim
  have h4 : 4 * E.length ≤ Arn.size (items E) := by
    have h2 : (items E).length = E.length := by simp [items]
    have hok := h.ok
    rw [← h2]
    generalize items E = M at hok
    clear hlt hat h2
    induction M with
    | nil => exact Nat.le_refl _
    | cons y M ih => have := ih hok.cons.2; have := hok.cons.1.fits; simp only [List.length_cons, Arn.size]; omega
  exact ⟨g, c, e.2.1, e.2.2, e5, by rw [he], hi, by omega, hg, hok1, by omega, by omega⟩
set_option maxRecDepth 100000 in
set_option maxHeartbeats 2000000 in
theorem kill30 {n db lim : Nat} {M : List Arn.It} {W : World} (hA : Dcx n db lim M W) (r : Int) :
    Calls Try.prog 30 #[.pointer (some ⟨db, 0, none⟩), .int .i64 r] W fun e w' => e = .returned (.int .i64 (Arn.errR (Arn.find M r))) ∧ DidD n db lim W (Arn.kill M r) w' := by
  obtain ⟨v, E, h, rfl⟩ := hA
  have C48 := hid (find48 h r)
  have HD := hid h
  go_enter Try.func30, Try.ntmps30
  go_wp2_with (fail)
  go_at_call 48
  refine C48.out.mono ?_
  rintro e w2 ⟨hf, hw2⟩
  rw [hw2]
  clear hw2 C48
  rcases hf with ⟨rfl, hf⟩ | ⟨i, x, rfl, hx, hp, hd⟩
  · have HE := hid (show Arn.errR (Arn.find (items E) r) = 91 by rw [hf]; rfl)
    have HK := hid (show Arn.kill (items E) r = items E by unfold Arn.kill; rw [hf])
    clear hf h
    go_wp2
    go_ret
    exact ⟨by rw [HE.out]; rfl, by rw [HK.out]; exact DidD.below ⟨v, E, HD.out, rfl⟩ (Below.refl _ _)⟩
  · obtain ⟨g, c, a, cap, rfl, he, hi, hEl, hg, hok, hroom, hpz⟩ := h.hit hx
    have hat := Arn.at_take h.ok hx
    rw [hp] at hat
    have hfind : Arn.find (items E) r = some x := Arn.find_some.2 ⟨hat.1, hd⟩
    have HE := hid (show Arn.errR (Arn.find (items E) r) = 0 by rw [hfind]; rfl)
    have HK := hid (show Arn.kill (items E) r = (items E).set i { x with dead := true } by unfold Arn.kill; rw [hfind]; exact hat.2 _)
    have hb := below_box W (.cells #[.int .i64 r, .int .i64 (x.room : Nat), .int .i64 x.id, .slice a x.lits.length cap, .bool x.red, .int .i64 x.lbd, .int .i64 x.used, .bool true] 92)
    have x0 := h.cell he (t := 0) rfl
    have x1 := h.cell he (t := 1) rfl
    have x2 := h.cell he (t := 2) rfl
    have x3 := h.cell he (t := 3) rfl
    have x4 := h.cell he (t := 4) rfl
    have x5 := h.cell he (t := 5) rfl
    have x6 := h.cell he (t := 6) rfl
    have x7 := h.cell he (t := 7) rfl
    simp only [hd] at x7
    rw [Nat.add_zero, hp] at x0
    have hc1 := row_cell h.blk 1
    clear hfind hat
    have hD1 := h.below hb
    have hT := hD1.turn (e := (x, a, cap)) (e' := ({ x with dead := true }, a, cap)) he rfl ⟨hok.fits, hok.id1, hok.id2, hok.lbd1, hok.lbd2, hok.used1, hok.used2, hok.lits⟩ (hD1.lits (x, a, cap) (List.mem_of_getElem? he)) (hD1.caps (x, a, cap) (List.mem_of_getElem? he)) r hp.symm
    have HT1 := hid (hT.1.below (Below.refl _ _).drew)
    have HT2 := hid (hT.2.trans (Fr.of_below (Below.refl _ _).drew))
    unfold set8 at HT1 HT2
    have HB := hid hb
    have hiE : (i : Int) < E.length := by omega
    go_wp2_with (fail)
    have y0 := (hb.cell (p := ⟨g, i * 8, none⟩) (cell_lt x0)).trans x0
    have y1 := (hb.cell (p := ⟨g, i * 8 + 1, none⟩) (cell_lt x1)).trans x1
    have y2 := (hb.cell (p := ⟨g, i * 8 + 2, none⟩) (cell_lt x2)).trans x2
    have y3 := (hb.cell (p := ⟨g, i * 8 + 3, none⟩) (cell_lt x3)).trans x3
    have y4 := (hb.cell (p := ⟨g, i * 8 + 4, none⟩) (cell_lt x4)).trans x4
    have y5 := (hb.cell (p := ⟨g, i * 8 + 5, none⟩) (cell_lt x5)).trans x5
    have y6 := (hb.cell (p := ⟨g, i * 8 + 6, none⟩) (cell_lt x6)).trans x6
    have y7 := (hb.cell (p := ⟨g, i * 8 + 7, none⟩) (cell_lt x7)).trans x7
    have hfz : ∀ t, (W.alloc (.cells #[.int .i64 r, .int .i64 (x.room : Nat), .int .i64 x.id, .slice a x.lits.length cap, .bool x.red, .int .i64 x.lbd, .int .i64 x.used, .bool true] 92)).frozen? ⟨g, t, none⟩ = false := fun t => (h.below hb).own.frozenAt t
    have hd1 := row_cell (h.below hb).blk 1
    clear x0 x1 x2 x3 x4 x5 x6 x7 hc1 hb hT hD1 h HD
    go_region
    all_goals
      go_wp2
      go_ret
      exact ⟨by rw [HE.out]; rfl, by rw [HK.out]; exact ⟨⟨_, _, HT1.out, by rw [items_set]⟩, (Fr.of_below HB.out).trans HT2.out⟩⟩
end Go.Proofs.Ytblogmelmpkfhaa
