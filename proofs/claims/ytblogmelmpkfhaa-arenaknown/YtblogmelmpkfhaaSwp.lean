/- Swap. -/
import Derived.Test.YtblogmelmpkfhaaMrk
namespace Arn
def swapL (l : List Int) (i k : Nat) : List Int := (l.set i (l.getD k 0)).set k (l.getD i 0)
def places (x : It) (i k : Int) : Bool := (decide (0 ≤ i) && decide (i < x.lits.length)) && (decide (0 ≤ k) && decide (k < x.lits.length))
def swap (M : List It) (r i k : Int) : List It := match find M r with
  | none => M
  | some x => if places x i k then upd M r { x with lits := swapL x.lits i.toNat k.toNat } else M
def errW (o : Option It) (i k : Int) : Int := match o with
  | none => 91
  | some x => if places x i k then 0 else 2
theorem set_cells (x : It) (i : Nat) (v : Int) (hi : i < x.lits.length) : ({ x with lits := x.lits.set i v } : It).cells = x.cells.set (4 + i) (u32 v) := by
  rw [show 4 + i = i + 4 by omega]
  simp only [It.cells, It.head, List.length_set, List.set_cons_succ]
  rw [List.set_append_left _ _ (by simpa using hi), List.map_set]
theorem upd_upd (M : List It) (r : Int) (y z : It) (hr : ∀ x, at? M r = some x → y.room = x.room) : upd (upd M r y) r z = upd M r z := by
  induction M generalizing r with
  | nil => rfl
  | cons x M ih =>
    have hc : ∀ (u : It) (N : List It) (q : Int) (v : It), upd (u :: N) q v = if q = 0 then v :: N else u :: upd N (q - u.room) v := fun _ _ _ _ => rfl
    by_cases e : r = 0
    · rw [hc, if_pos e, hc, if_pos e, hc, if_pos e]
    · rw [hc x M r y, if_neg e, hc, if_neg e, hc, if_neg e, ih (r - x.room) (fun x' hx' => hr x' (by rw [at?, if_neg e]; exact hx'))]
end Arn
namespace Go.Proofs.Ytblogmelmpkfhaa
open Go.RowKit Go.Maps
set_option linter.unusedVariables false

/-- Two literals changed. -/
theorem Ar.swp {n ab lim bm g c k i j : Nat} {M : List Arn.It} {W : World} {x : Arn.It} (h : Ar n ab lim (.slice (some ⟨g, 0, none⟩) (Arn.size M) c) bm M W) (hx : Arn.at? M k = some x) (hi : i < x.lits.length) (hj : j < x.lits.length) :
    Ar n ab lim (.slice (some ⟨g, 0, none⟩) (Arn.size M) c) bm (Arn.upd M k { x with lits := Arn.swapL x.lits i j }) ((W.setCell ⟨g, k + (4 + i), none⟩ (.int .u32 (Arn.u32 (x.lits.getD j 0)))).setCell ⟨g, k + (4 + j), none⟩ (.int .u32 (Arn.u32 (x.lits.getD i 0)))) ∧ Fr pA n W ((W.setCell ⟨g, k + (4 + i), none⟩ (.int .u32 (Arn.u32 (x.lits.getD j 0)))).setCell ⟨g, k + (4 + j), none⟩ (.int .u32 (Arn.u32 (x.lits.getD i 0)))) := by
  obtain ⟨_, _, hok⟩ := Arn.at_lt h.ok hx
  have hf := hok.fits
  have hm : ∀ (l : List Int) (t : Nat) (v : Int), (∀ y ∈ l, -2147483648 ≤ y ∧ y ≤ 2147483647) → (-2147483648 ≤ v ∧ v ≤ 2147483647) → ∀ y ∈ l.set t v, -2147483648 ≤ y ∧ y ≤ 2147483647 := fun l t v hl hv y hy => by
    rcases List.mem_or_eq_of_mem_set hy with hy | rfl
    · exact hl y hy
    · exact hv
  have hvi := hok.lits _ (Arn.getD_mem x.lits i hi)
  have hvj := hok.lits _ (Arn.getD_mem x.lits j hj)
  have hy1 : ({ x with lits := x.lits.set i (x.lits.getD j 0) } : Arn.It).ok := ⟨by show 4 + (x.lits.set i _).length ≤ x.room; rw [List.length_set]; exact hf, hok.id1, hok.id2, hok.lbd1, hok.lbd2, hok.used1, hok.used2, hm _ _ _ hok.lits hvj⟩
  obtain ⟨A1, F1⟩ := h.turnw (y := { x with lits := x.lits.set i (x.lits.getD j 0) }) hx rfl hy1 (4 + i) (Arn.u32 (x.lits.getD j 0)) (by omega) (Arn.set_cells x i _ hi) (by simp [Arn.It.lost])
  have hsz : Arn.size (Arn.upd M k { x with lits := x.lits.set i (x.lits.getD j 0) }) = Arn.size M := Arn.size_upd (y := { x with lits := x.lits.set i (x.lits.getD j 0) }) h.ok hx rfl
  have hx1 : Arn.at? (Arn.upd M k { x with lits := x.lits.set i (x.lits.getD j 0) }) k = some { x with lits := x.lits.set i (x.lits.getD j 0) } := by rw [Arn.at_upd (y := { x with lits := x.lits.set i (x.lits.getD j 0) }) h.ok hx rfl, if_pos rfl]
  have hy2 : ({ x with lits := Arn.swapL x.lits i j } : Arn.It).ok := ⟨by show 4 + (Arn.swapL x.lits i j).length ≤ x.room; unfold Arn.swapL; rw [List.length_set, List.length_set]; exact hf, hok.id1, hok.id2, hok.lbd1, hok.lbd2, hok.used1, hok.used2, hm _ _ _ (hm _ _ _ hok.lits hvj) hvi⟩
  rw [← hsz] at A1
  obtain ⟨A2, F2⟩ := A1.turnw (y := { x with lits := Arn.swapL x.lits i j }) hx1 rfl hy2 (4 + j) (Arn.u32 (x.lits.getD i 0)) (by show 4 + j < x.room; omega) (Arn.set_cells { x with lits := x.lits.set i (x.lits.getD j 0) } j _ (by show j < (x.lits.set i _).length; rw [List.length_set]; exact hj)) (by simp [Arn.It.lost, Arn.swapL])
  rw [hsz, Arn.upd_upd M k _ _ (fun x' hx' => by rw [hx] at hx'; cases hx'; rfl)] at A2
  exact ⟨A2, F1.trans F2⟩
set_option maxRecDepth 100000 in
set_option maxHeartbeats 2000000 in
theorem swap18 {n ab lim : Nat} {M : List Arn.It} {W : World} (hA : Arx n ab lim M W) (r i j : Int) (hr : I64 r) :
    Calls Try.prog 18 #[.pointer (some ⟨ab, 0, none⟩), .int .i64 r, .int .i64 i, .int .i64 j] W fun e w' => e = .returned (.int .i64 (Arn.errW (Arn.find M r) i j)) ∧ Did n ab lim W (Arn.swap M r i j) w' := by
  obtain ⟨v, bm, h⟩ := hA
  have HL := hid (wrong43 h r hr)
  cases hx : Arn.find M r with
  | none =>
    rw [hx] at HL
    have HD := hid (fun (w' : World) (hw : Below W.heap.size W w') => show Did n ab lim W (Arn.swap M r i j) w' from ⟨by unfold Arn.swap; rw [hx]; exact ⟨v, bm, h.below hw⟩, Fr.of_below hw⟩)
    clear h hr
    go_enter Try.func18, Try.ntmps18
    go_wp2_with (go_at_call 43; refine HL.out.mono ?_; rintro e w3 ⟨rfl, hw3⟩)
    go_ret
    exact ⟨rfl, HD.out _ hw3⟩
  | some x =>
    rw [hx] at HL
    obtain ⟨g, c, k, rfl, rfl, ha, hd, hok, hk, hfits, hN, hg, hgb, hc, hcm, hlt⟩ := h.hit hx
    have HC := hid (fun (w' : World) (hw : Below W.heap.size W w') => lits45 (h.below hw) ha)
    have HP1 := hid (fun (w' : World) => place46 (some ⟨g, lo c k, none⟩) x.lits.length (c - k - 4) i w' (by omega))
    have HP2 := hid (fun (w' : World) => place46 (some ⟨g, lo c k, none⟩) x.lits.length (c - k - 4) j w' (by omega))
    by_cases hp : Arn.places x i j = true
    · have HK := hid (show Arn.swap M k i j = Arn.upd M k { x with lits := Arn.swapL x.lits i.toNat j.toNat } by unfold Arn.swap; rw [hx]; simp only []; rw [if_pos hp])
      have HE := hid (show Arn.errW (some x) i j = 0 by simp only [Arn.errW]; rw [if_pos hp])
      rw [HE.out]
      unfold Arn.places at hp
      rw [Bool.and_eq_true] at hp
      rw [hp.1] at HP1
      rw [hp.2] at HP2
      simp only [Bool.and_eq_true, decide_eq_true_eq] at hp
      obtain ⟨⟨hp1, hp2⟩, hp3, hp4⟩ := hp
      obtain ⟨i, rfl⟩ : ∃ i' : Nat, i = i' := ⟨i.toNat, by omega⟩
      obtain ⟨j, rfl⟩ : ∃ j' : Nat, j = j' := ⟨j.toNat, by omega⟩
      rw [Int.toNat_natCast, Int.toNat_natCast] at HK
      have hiL : i < x.lits.length := by omega
      have hjL : j < x.lits.length := by omega
      have HW := hid (fun (w' : World) (hw : Below W.heap.size W w') (t : Nat) (ht : t < x.lits.length) => ((h.below hw).word ha (4 + t) (by omega)).trans (by rw [lit_word t ht]))
      have HFZ := hid (fun (w' : World) (hw : Below W.heap.size W w') (t : Nat) => (h.below hw).own.frozenAt t)
      have HD := hid (fun (w' : World) (hw : Below W.heap.size W w') => (h.below hw).swp ha hiL hjL)
      have hlo : lo c k = k + 4 := by unfold lo; rw [if_neg (by omega)]
      rw [hlo] at HC HP1 HP2
      generalize x.lits.length = L at *
      clear h hr hx ha hok hd hgb
      go_enter Try.func18, Try.ntmps18
      go_wp2_with (fail)
      go_at_call 43
      refine HL.out.mono ?_
      rintro e w3 ⟨rfl, hw3⟩
      clear HL
      have ci := HW.out _ hw3 i hiL
      have cj := HW.out _ hw3 j hjL
      have fi := HFZ.out _ hw3 (k + 4 + i)
      have fj := HFZ.out _ hw3 (k + 4 + j)
      rw [← Nat.add_assoc] at ci cj
      obtain ⟨hD1, hD2⟩ := HD.out _ hw3.drew
      rw [← Nat.add_assoc, ← Nat.add_assoc] at hD1 hD2
      have HD1 := hid hD1
      have HD2 := hid hD2
      generalize Arn.u32 (x.lits.getD i 0) = u1 at *
      generalize Arn.u32 (x.lits.getD j 0) = u2 at *
      clear hD1 hD2 HD HW HFZ
      go_wp2_with (fail)
      go_at_call 45
      refine (HC.out _ hw3).mono ?_
      rintro e w4 ⟨rfl, hw4⟩
      rw [hw4]
      clear hw4
      go_wp2_with (fail)
      go_at_call 46
      refine (HP1.out _).mono ?_
      rintro e w4 ⟨rfl, hw4⟩
      rw [hw4]
      clear hw4
      go_wp2_with (fail)
      go_at_call 46
      refine (HP2.out _).mono ?_
      rintro e w4 ⟨rfl, hw4⟩
      rw [hw4]
      clear hw4 HP1 HP2 HC
      go_wp2_with (fail)
      by_cases hij : i = j
      · subst hij
        obtain rfl : u1 = u2 := by rw [ci] at cj; cases cj; rfl
        go_region
        all_goals
          go_wp2
          go_ret
          exact ⟨rfl, by rw [HK.out]; exact ⟨⟨_, _, HD1.out⟩, (Fr.of_below hw3.drew).trans HD2.out⟩⟩
      · have hij2 : ¬ j = i := fun e => hij e.symm
        go_region
        all_goals
          go_wp2
          go_ret
          exact ⟨rfl, by rw [HK.out]; exact ⟨⟨_, _, HD1.out⟩, (Fr.of_below hw3.drew).trans HD2.out⟩⟩
    · have HD := hid (fun (w' : World) (hw : Below W.heap.size W w') => show Did n ab lim W (Arn.swap M k i j) w' from ⟨by unfold Arn.swap; rw [hx]; simp only []; rw [if_neg hp]; exact ⟨_, bm, h.below hw⟩, Fr.of_below hw⟩)
      have HE := hid (show Arn.errW (some x) i j = 2 by simp only [Arn.errW]; rw [if_neg hp])
      rw [HE.out]
      unfold Arn.places at hp
      generalize (decide (0 ≤ i) && decide (i < x.lits.length)) = b1 at *
      generalize (decide (0 ≤ j) && decide (j < x.lits.length)) = b2 at *
      generalize x.lits.length = L at *
      clear h hr hx ha hok hd hgb
      cases b1
      · go_enter Try.func18, Try.ntmps18
        go_wp2_with (first
          | (go_at_call 43; refine HL.out.mono ?_; rintro e w3 ⟨rfl, hw3⟩)
          | (go_at_call 45; refine (HC.out _ hw3).mono ?_; rintro e w4 ⟨rfl, hw4⟩; rw [hw4]; clear hw4)
          | (go_at_call 46; refine (HP1.out _).mono ?_; rintro e w4 ⟨rfl, hw4⟩; rw [hw4]; clear hw4))
        go_ret
        exact ⟨rfl, HD.out _ hw3⟩
      · cases b2
        · go_enter Try.func18, Try.ntmps18
          go_wp2_with (fail)
          go_at_call 43
          refine HL.out.mono ?_
          rintro e w3 ⟨rfl, hw3⟩
          go_wp2_with (fail)
          go_at_call 45
          refine (HC.out _ hw3).mono ?_
          rintro e w4 ⟨rfl, hw4⟩
          rw [hw4]
          clear hw4
          go_wp2_with (fail)
          go_at_call 46
          refine (HP1.out _).mono ?_
          rintro e w4 ⟨rfl, hw4⟩
          rw [hw4]
          clear hw4
          go_wp2_with (fail)
          go_at_call 46
          refine (HP2.out _).mono ?_
          rintro e w4 ⟨rfl, hw4⟩
          rw [hw4]
          clear hw4
          go_wp2
          go_ret
          exact ⟨rfl, HD.out _ hw3⟩
        · exact absurd rfl hp
end Go.Proofs.Ytblogmelmpkfhaa
