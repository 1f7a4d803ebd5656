/- What was read last, in memory of its own. -/
import Derived.Test.YtmgeoeajnpnadaaRdB
import Derived.Test.YtmgeoeajnpnadaaAStp
namespace Go.Proofs.Ytmgeoeajnpnadaa
open Go.RowKit
set_option linter.unusedVariables false
set_option linter.unusedSimpArgs false

theorem keep_box {A : World} {rb n : Nat} (v0 v1 v2 v3 : Value) (hne : rb ≠ n) {q2 q3 q4 q5 : Option Value} (h : A.cell? ⟨rb, 1, none⟩ = q2 ∧ A.cell? ⟨rb, 2, none⟩ = q3 ∧ A.cell? ⟨rb, 3, none⟩ = q4 ∧ A.cell? ⟨rb, 4, none⟩ = q5) :
    ((((A.setCell ⟨n, 0, none⟩ v0).setCell ⟨n, 1, none⟩ v1).setCell ⟨n, 2, none⟩ v2).setCell ⟨n, 3, none⟩ v3).cell? ⟨rb, 1, none⟩ = q2 ∧ ((((A.setCell ⟨n, 0, none⟩ v0).setCell ⟨n, 1, none⟩ v1).setCell ⟨n, 2, none⟩ v2).setCell ⟨n, 3, none⟩ v3).cell? ⟨rb, 2, none⟩ = q3 ∧ ((((A.setCell ⟨n, 0, none⟩ v0).setCell ⟨n, 1, none⟩ v1).setCell ⟨n, 2, none⟩ v2).setCell ⟨n, 3, none⟩ v3).cell? ⟨rb, 3, none⟩ = q4 ∧ ((((A.setCell ⟨n, 0, none⟩ v0).setCell ⟨n, 1, none⟩ v1).setCell ⟨n, 2, none⟩ v2).setCell ⟨n, 3, none⟩ v3).cell? ⟨rb, 4, none⟩ = q5 := by
  have hk : ∀ k, ((((A.setCell ⟨n, 0, none⟩ v0).setCell ⟨n, 1, none⟩ v1).setCell ⟨n, 2, none⟩ v2).setCell ⟨n, 3, none⟩ v3).cell? ⟨rb, k, none⟩ = A.cell? ⟨rb, k, none⟩ := fun k =>
    World.cell?_of_block (w := A) (a := ⟨rb, k, none⟩) ((heap_other _ _ hne).trans ((heap_other _ _ hne).trans ((heap_other _ _ hne).trans (heap_other _ _ hne))))
  rw [hk 1, hk 2, hk 3, hk 4]
  exact h

/-- A step that is told, its rows in new memory. -/
def StepOut (w : World) (kd id : Int) (ls hs : List Int) (e : Ending) (w' : World) : Prop :=
  ∃ o1 c1 o2 c2, e = .returned (.agg #[.int .u8 kd, .int .i64 id, .slice o1 ls.length c1, .slice o2 hs.length c2]) ∧ w'.ownsRow w.heap.size 44 1 (.slice o1 ls.length c1) ls.length (ls.map (Value.int .i32)) ∧ w'.ownsRow w.heap.size 2 1 (.slice o2 hs.length c2) hs.length (hs.map (Value.int .i64)) ∧ Below w.heap.size w w'

set_option maxRecDepth 100000 in
set_option maxHeartbeats 4000000 in
theorem step26 (base rb : Nat) (W : World) (ra : Option Addr) (rn rc : Nat) (kd id : Int) (ls hs : List Int) (it : Int) (lv hv : Value) (h : RdO base rb W ra rn rc kd id ls hs it lv hv) (h1 : ls.length ≤ 16777216) (h2 : hs.length ≤ 16777216) :
    Calls Try.prog 26 #[.pointer (some ⟨rb, 0, none⟩)] W fun e w' => StepOut W kd id ls hs e w' := by
  have hlt := (Array.getElem?_eq_some_iff.1 h.rd.blk).1
  have hbx := below_box W (.cells #[.int .u8 0, .int .i64 0, .slice none 0 0, .slice none 0 0] 43)
  have hnew := heap_alloc_new W (.cells #[.int .u8 0, .int .i64 0, .slice none 0 0, .slice none 0 0] 43)
  obtain ⟨V, hV⟩ : ∃ V, W.alloc (.cells #[.int .u8 0, .int .i64 0, .slice none 0 0, .slice none 0 0] 43) = V := ⟨_, rfl⟩
  rw [hV] at hbx hnew
  have hb0 : Below W.heap.size W V.drew := hbx.drew
  have hn0 : V.drew.heap[W.heap.size]? = some (.cells #[.int .u8 0, .int .i64 0, .slice none 0 0, .slice none 0 0] 43 (0, 0)) := hnew
  have hr0 : V.drew.heap[rb]? = W.heap[rb]? := hb0.block rb hlt
  have L0 := own_below h.lo hb0
  have H0 := own_below h.ho hb0
  obtain ⟨o1, c1, A1, ra1, oa1, ba1⟩ := copy_lits L0 h1
  obtain ⟨o2, c2, A2, ra2, oa2, ba2⟩ := copy_hints (own_below H0 ba1) h2
  have blk0 := hr0.trans h.rd.blk
  have hltW0 : rb < V.drew.heap.size := (Array.getElem?_eq_some_iff.1 blk0).1
  have blkA1 := (ba1.block rb hltW0).trans blk0
  have blkA2 := (ba2.block rb (Array.getElem?_eq_some_iff.1 blkA1).1).trans blkA1
  have hsW0 : W.heap.size < V.drew.heap.size := (Array.getElem?_eq_some_iff.1 hn0).1
  have newA1 := (ba1.block _ hsW0).trans hn0
  have newA2 := (ba2.block _ (Array.getElem?_eq_some_iff.1 newA1).1).trans newA1
  have x2 := row_cell blk0 1
  have x3 := row_cell blk0 2
  have x4 := row_cell blk0 3
  have x5 := row_cell blk0 4
  have y2 := row_cell blkA1 1
  have y3 := row_cell blkA1 2
  have y4 := row_cell blkA1 3
  have y5 := row_cell blkA1 4
  have u2 := row_cell blkA2 1
  have u3 := row_cell blkA2 2
  have u4 := row_cell blkA2 3
  have u5 := row_cell blkA2 4
  simp only [List.getElem?_toArray, List.getElem?_cons_zero, List.getElem?_cons_succ] at x2 x3 x4 x5 y2 y3 y4 y5 u2 u3 u4 u5
  have p0 := row_cell newA2 0
  have p1 := row_cell newA2 1
  have p2 := row_cell newA2 2
  have p3 := row_cell newA2 3
  simp only [List.getElem?_toArray, List.getElem?_cons_zero, List.getElem?_cons_succ] at p0 p1 p2 p3
  have pf0 := row_frozen newA2 0
  have pf1 := row_frozen newA2 1
  have pf2 := row_frozen newA2 2
  have pf3 := row_frozen newA2 3
  have KX := hid (And.intro x2 (And.intro x3 (And.intro x4 x5)))
  have KY := hid (And.intro y2 (And.intro y3 (And.intro y4 y5)))
  have KU := hid (And.intro u2 (And.intro u3 (And.intro u4 u5)))
  clear x2 x3 x4 x5 y2 y3 y4 y5 u2 u3 u4 u5
  have HNE := hid (show rb ≠ W.heap.size by omega)
  have RA1 := hid ra1
  have RA2 := hid ra2
  have HV := hid hV
  have FA := hid (And.intro (hb0.trans (ba1.mono hb0.size)) (And.intro oa1 (And.intro oa2 (And.intro ba2 (And.intro hsW0 ba1.size)))))
  have NA := hid newA2
  obtain ⟨m1, hm1⟩ : ∃ m1, ls.length = m1 := ⟨_, rfl⟩
  obtain ⟨m2, hm2⟩ : ∃ m2, hs.length = m2 := ⟨_, rfl⟩
  have HM1 := hid hm1
  have HM2 := hid hm2
  unfold StepOut
  rw [hm1, hm2]
  clear ra1 ra2 oa1 oa2 ba1 ba2 L0 H0 hb0 hn0 hr0 hbx hnew blk0 blkA1 blkA2 newA1 newA2 hltW0 hlt h1 h2 h hsW0 hm1 hm2 hV
  go_enter Try.func26, Try.ntmps26
  go_wp2
  rw [HV.out]
  go_region_held3 (fun w' => w'.cell? ⟨rb, 1, none⟩ = some (.int .u8 kd) ∧ w'.cell? ⟨rb, 2, none⟩ = some (.int .i64 id) ∧ w'.cell? ⟨rb, 3, none⟩ = some lv ∧ w'.cell? ⟨rb, 4, none⟩ = some hv)
    (first | exact KX.out | exact KY.out | exact KU.out | exact keep_box _ _ _ _ HNE.out KU.out)
    (first
      | (refine step_append_run rfl (.const (.slice none 0 0)) (.tmp 14) 41 41 (by rfl) (by rfl) (by rfl) RA1.out ?_)
      | (refine step_append_run rfl (.const (.slice none 0 0)) (.tmp 19) 39 39 (by rfl) (by rfl) (by rfl) RA2.out ?_))
  go_wp2
  refine bodyPost_ret (results_cell_row rfl _ _ W.heap.size 43 _ (0, 0) _ rfl (heap_set_row (heap_set_row (heap_set_row (heap_set_row NA.out _) _) _) _) Try.underlying43 rfl (by kernel_rfl)) rfl ?_
  obtain ⟨g1, g2, g3, g4, g5, g6⟩ := FA.out
  refine ⟨o1, c1, o2, c2, ?_, ?_, ?_, ?_⟩
  · rw [← HM1.out, ← HM2.out]; rfl
  · rw [← HM1.out]
    exact own_base (own_set (own_set (own_set (own_set (own_below g2 g4) g5 _) g5 _) g5 _) g5 _) (Nat.le_of_lt g5)
  · rw [← HM2.out]
    have g7 := Nat.lt_of_lt_of_le g5 g6
    exact own_base (own_set (own_set (own_set (own_set g3 g7 _) g7 _) g7 _) g7 _) (Nat.le_of_lt g7)
  · have g8 := g1.trans (g4.mono g1.size)
    exact (((g8.setCell (p := ⟨W.heap.size, 0, none⟩) (Nat.le_refl _) _).setCell (p := ⟨W.heap.size, 1, none⟩) (Nat.le_refl _) _).setCell (p := ⟨W.heap.size, 2, none⟩) (Nat.le_refl _) _).setCell (p := ⟨W.heap.size, 3, none⟩) (Nat.le_refl _) _
end Go.Proofs.Ytmgeoeajnpnadaa
