/- A variable more, a variable less: the row's own calls. -/
import Derived.Test.YtjbnkkjihcoojaaSwp
namespace Go.Proofs.Ytjbnkkjihcoojaa
open Go.RowKit Go.Maps
set_option linter.unusedVariables false
set_option maxRecDepth 100000

/-- A place turned. -/
theorem Hp.setP {Q : Nat → Prop} {hb gp cp : Nat} {sv lv : Value} {n : Nat} {sc : List Int} {vs : List Nat} {pl : List Int} {W : World} (H : Hp Q hb sv (.slice (some ⟨gp, 0, none⟩) n cp) lv n sc vs pl W) (u : Nat) (x : Int) :
    Hp Q hb sv (.slice (some ⟨gp, 0, none⟩) n cp) lv n sc vs (pl.set u x) (W.setCell ⟨gp, u, none⟩ (.int .i64 x)) ∧ Fq Q W (W.setCell ⟨gp, u, none⟩ (.int .i64 x)) := by
  obtain ⟨n1, n2, n3, n4, n5⟩ := H.apart
  have hgp : gp ≠ hb := fun e => n2 (by rw [e]; rfl)
  refine ⟨⟨fun g hg => by simpa [World.setCell] using H.lt g hg, H.nh, H.ns, H.np, H.nl, H.lp, ?_, ?_, ?_, ?_⟩, Fq.set W _ (H.np gp rfl)⟩
  · rw [heap_other _ _ (fun e => hgp e.symm)]; exact H.blk
  · exact own_keep H.scs (fun e => n4 gp e rfl) _
  · have := own_setc H.pls u (.int .i64 x)
    rw [iss_set] at this
    exact this
  · exact own_keep H.row (fun e => H.lp gp e rfl) _
/-- A variable more at the end. -/
theorem Hp.push {Q : Nat → Prop} {hb : Nat} {sv pv lv : Value} {n : Nat} {sc : List Int} {vs : List Nat} {pl : List Int} {W : World} (H : Hp Q hb sv pv lv n sc vs pl W) (u : Nat) (hlen : vs.length ≤ 1048576) :
    ∃ g c X, (Builtin.append_ #[42, 42] 42 #[lv, .slice (some ⟨W.heap.size, 0, none⟩) 1 1]).run Try.prog (W.alloc (.cells #[.int .i64 ((u : Int) + 1)] 3)) = .ok (.slice (some ⟨g, 0, none⟩) (vs.length + 1) c) X ∧
      X.cell? ⟨hb, 1, none⟩ = some lv ∧ X.frozen? ⟨hb, 1, none⟩ = false ∧ (lv.ownBlock = some g ∨ W.heap.size ≤ g) ∧
      Hp Q hb sv pv (.slice (some ⟨g, 0, none⟩) (vs.length + 1) c) n sc (vs ++ [u]) pl (X.setCell ⟨hb, 1, none⟩ (.slice (some ⟨g, 0, none⟩) (vs.length + 1) c)) ∧ Fq Q W (X.setCell ⟨hb, 1, none⟩ (.slice (some ⟨g, 0, none⟩) (vs.length + 1) c)) := by
  obtain ⟨i0, hi, hz⟩ := Option.map_eq_some_iff.1 info3
  simp only [Prod.mk.injEq] at hz
  obtain ⟨n1, n2, n3, n4, n5⟩ := H.apart
  have hal := below_box W (.cells #[.int .i64 ((u : Int) + 1)] 3)
  have hsz : (W.alloc (.cells #[.int .i64 ((u : Int) + 1)] 3)).heap.size = W.heap.size + 1 := by simp
  have H1 := H.below hal
  obtain ⟨l1, l2, l3, l4⟩ := H.lts
  obtain ⟨g, c, X, hr, hown, hgr, hat, hlt⟩ := run_append_lies (P := Try.prog) (W.alloc (.cells #[.int .i64 ((u : Int) + 1)] 3)) 42 42 0 3 i0 _ 1 8 Try.underlying42 hi hz.1 hz.2.1 hz.2.2 rfl (by decide) lv vs.length _ H1.row
    ⟨W.heap.size, 0, none⟩ 1 1 [.int .i64 ((u : Int) + 1)] rfl (World.news_of_block (heap_alloc_new W (.cells #[.int .i64 ((u : Int) + 1)] 3))) (by intro u hu; rw [List.mem_singleton.1 hu]; rfl) (by decide) (by unfold maxLen; omega) (by omega) (Nat.zero_le _) _ hsz
  have hblk : X.heap[hb]? = some (.cells #[sv, lv, pv, cmpv sv] 62 (0, 0)) :=
    (hgr.block hb (by rw [hsz]; omega) (fun e => n3 e.symm)).trans H1.blk
  obtain ⟨_, curg, hgc⟩ := own_blk (g := g) hown rfl
  have hghb : g ≠ hb := by rintro rfl; rw [hblk] at hgc; injection hgc with e3; injection e3 with _ e3; cases e3
  have hat2 : lv.ownBlock = some g ∨ W.heap.size ≤ g := by
    rcases hat with e | e
    · exact .inl e
    · exact .inr (by omega)
  have hngQ : ¬ Q g := by
    rcases hat2 with e | e
    · exact H.nl g e
    · intro hq; have := H.lt g hq; omega
  have hXs := hgr.size
  have hoth : ∀ x, x ≠ hb → (X.setCell ⟨hb, 1, none⟩ (.slice (some ⟨g, 0, none⟩) (vs.length + 1) c)).heap[x]? = X.heap[x]? := fun x hx => heap_other X _ hx
  have hoz : (X.setCell ⟨hb, 1, none⟩ (.slice (some ⟨g, 0, none⟩) (vs.length + 1) c)).heap.size = X.heap.size := by simp [World.setCell]
  refine ⟨g, c, X, hr, row_cell hblk 1, row_frozen hblk 1, hat2, ?_, ?_⟩
  · refine ⟨fun q hq => by rw [hoz]; have := H.lt q hq; omega, H.nh, H.ns, H.np, (fun q e => by cases e; exact hngQ), ?_, ?_, ?_, ?_, ?_⟩
    · intro q e1 e2
      cases e1
      rcases hat2 with e | e
      · exact H.lp g e e2
      · have := l3 g e2; omega
    · rw [heap_set_row hblk]; rfl
    · exact own_other (own_grown2 H1.scs hgr (fun q e1 e2 => n5 q e1 e2)) n1 hoth
    · exact own_other (own_grown2 H1.pls hgr (fun q e1 e2 => H.lp q e2 e1)) n2 hoth
    · exact own_other (g := hb) (by rw [List.length_append, show ivs (vs ++ [u]) = ivs vs ++ [.int .i64 ((u : Int) + 1)] by simp [ivs]]; exact hown) (by intro e; cases e; exact hghb rfl) hoth
  · refine (Fq.of_below hal).trans ((Fq.grown hgr (fun q hq => H.nl q hq)).trans (Fq.set X _ H.nh))
/-- One less at the end. -/
theorem Hp.cut {Q : Nat → Prop} {hb gl cl m : Nat} {sv pv : Value} {n : Nat} {sc : List Int} {vs : List Nat} {pl : List Int} {W : World} (hm : vs.length = m + 1) (H : Hp Q hb sv pv (.slice (some ⟨gl, 0, none⟩) (m + 1) cl) n sc vs pl W) :
    Hp Q hb sv pv (.slice (some ⟨gl, 0, none⟩) m cl) n sc (vs.take m) pl (W.setCell ⟨hb, 1, none⟩ (.slice (some ⟨gl, 0, none⟩) m cl)) ∧ Fq Q W (W.setCell ⟨hb, 1, none⟩ (.slice (some ⟨gl, 0, none⟩) m cl)) := by
  obtain ⟨n1, n2, n3, n4, n5⟩ := H.apart
  refine ⟨⟨fun g hg => by simpa [World.setCell] using H.lt g hg, H.nh, H.ns, H.np, (fun q e => by cases e; exact H.nl gl rfl), (fun q e => by cases e; exact H.lp gl rfl), ?_, own_keep H.scs n1 _, own_keep H.pls n2 _, ?_⟩, Fq.set W _ H.nh⟩
  · rw [heap_set_row H.blk]; rfl
  · have hr := own_keep H.row n3 (t := 1) (.slice (some ⟨gl, 0, none⟩) m cl)
    rw [hm] at hr
    obtain ⟨g, c, cur, e1, h1, h2, h3, h4, h5, h6⟩ := own_some hr (by omega)
    cases e1
    have hl : (vs.take m).length = m := by simp; omega
    rw [hl]
    refine own_mk h1 h2 (by omega) h4 h5 ?_
    have : ivs (vs.take m) = (ivs vs).take m := by unfold ivs; rw [List.map_take]
    rw [this, ← h6, List.take_take, Nat.min_eq_left (by omega)]
/-- What a call that turns the row leaves: a row's value, old or new. -/
def HqL (Q : Nat → Prop) (hb : Nat) (sv pv lv : Value) (n : Nat) (sc : List Int) (vs : List Nat) (W w' : World) : Prop :=
  ∃ lv' pl, Hp Q hb sv pv lv' n sc vs pl w' ∧ Hpp.Pl n vs pl ∧ Fq Q W w' ∧ ∀ g, lv'.ownBlock = some g → lv.ownBlock = some g ∨ W.heap.size ≤ g
theorem as3 (x : Value) (W : World) : (Instr.typeAssert (.iface 3 x) 20 3 true).run Try.prog W = .ok (.tuple #[x, .bool true]) W := by kernel_rfl
set_option maxHeartbeats 2000000 in
theorem push98 {Q : Nat → Prop} {hb : Nat} {sv pv lv : Value} {n : Nat} {sc : List Int} {vs : List Nat} {pl : List Int} {W : World} (H : Hp Q hb sv pv lv n sc vs pl W) (hp : Hpp.Pl n vs pl) (hn : n ≤ 1048576) (hml : vs.length ≤ 1048576) {u : Nat} (hu : u < n) (hv : u ∉ vs) :
    Calls Try.prog 98 #[.pointer (some ⟨hb, 1, none⟩), .iface 3 (.int .i64 ((u : Int) + 1))] W fun e w' => e = .returned (.tuple #[]) ∧ HqL Q hb sv pv lv n sc (vs ++ [u]) W w' := by
  obtain ⟨gp, cp, rfl, pc, pz⟩ := H.pat (by omega)
  have HPL := hid (hp.push hu hv)
  obtain ⟨hS, hF⟩ := H.setP u vs.length
  obtain ⟨o, c, rfl⟩ := own_slc H.row
  have c1 := row_cell H.blk 1
  have c2 := row_cell H.blk 2
  have pu := pc u hu
  have fu := pz u
  have hu' : (u : Int) < n := by omega
  have hu0 : (0 : Int) ≤ u := by omega
  have has := as3
  go_enter Try.func98, Try.ntmps98
  go_wp2_with (fail)
  go_region
  all_goals
    obtain ⟨W1, hW1⟩ : ∃ W1, (W.setCell ⟨gp, u, none⟩ (.int .i64 vs.length)).drew = W1 := ⟨_, rfl⟩
    have hb1 : Below (W.setCell ⟨gp, u, none⟩ (.int .i64 vs.length)).heap.size (W.setCell ⟨gp, u, none⟩ (.int .i64 vs.length)) W1 := by rw [← hW1]; exact (Below.refl _ _).drew
    have H1 := hS.below hb1
    have hF1 := hF.trans (Fq.of_below hb1)
    have hsz1 : W.heap.size ≤ W1.heap.size := hF1.size
    rw [hW1]
    clear hW1 hb1 hS hF
    have e1 := row_cell H1.blk 1
    obtain ⟨g, c9, X, hr, hc1, hf1, hat, hT2, hF2⟩ := H1.push u hml
    have HRN := hid hr
    have HO := hid (show HqL Q hb sv (.slice (some ⟨gp, 0, none⟩) n cp) (.slice o vs.length c) n sc (vs ++ [u]) W _ from ⟨_, _, hT2, HPL.out, hF1.trans hF2, fun q e => by cases e; exact hat.imp id (fun h => Nat.le_trans hsz1 h)⟩)
    clear hr hT2 hF2 hF1 hat H1 H hp pc pz c1 c2 pu fu
    go_wp2_with (at_builtin; refine wpList_append_run rfl (.tmp 28) (.tmp 30) 42 42 rfl rfl rfl HRN.out ?_)
    refine bodyPost_end (results_none rfl _ _ _) rfl ?_
    exact ⟨rfl, HO.out⟩
set_option maxHeartbeats 2000000 in
theorem pop97 {Q : Nat → Prop} {hb : Nat} {sv pv lv : Value} {n m : Nat} {sc : List Int} {vs : List Nat} {pl : List Int} {W : World} (H : Hp Q hb sv pv lv n sc vs pl W) (hp : Hpp.Pl n vs pl) (hn : n ≤ 1048576) (hm : vs.length = m + 1) (hml : m ≤ 1048576) :
    Calls Try.prog 97 #[.pointer (some ⟨hb, 1, none⟩)] W fun e w' => e = .returned (.iface 3 (.int .i64 ((vs.getD m 0 : Nat) + 1 : Int))) ∧ HqL Q hb sv pv lv n sc (vs.take m) W w' := by
  have am := (hp.at_ m (by omega)).1
  obtain ⟨gp, cp, rfl, pc, pz⟩ := H.pat (by omega)
  obtain ⟨gl, cl, rfl, hc, hz⟩ := H.at (by omega)
  have HPL := hid (hp.pop hm)
  obtain ⟨hS, hF⟩ := H.setP (vs.getD m 0) (-1)
  have cm := hc m (by omega)
  have pm := pc _ am
  have fm := pz (vs.getD m 0)
  have hcl : m + 1 ≤ cl := by
    obtain ⟨g', c', cur, e1, _, _, h3, _⟩ := own_some H.row (by omega)
    cases e1; omega
  rw [hm] at H hS
  have c1 := row_cell H.blk 1
  have c2 := row_cell H.blk 2
  clear hc pc pz hz H hp
  obtain ⟨u, hu⟩ : ∃ u, vs.getD m 0 = u := ⟨_, rfl⟩
  rw [hu] at am cm pm fm hS hF HPL ⊢
  have am' : (u : Int) < n := by omega
  have am0 : (0 : Int) ≤ u := by omega
  have hcl' : ¬ (cl : Int) < m := by omega
  clear hu
  generalize pl.getD u 0 = pu at *
  obtain ⟨W1, hW1⟩ : ∃ W1, W.setCell ⟨gp, u, none⟩ (.int .i64 (-1)) = W1 := ⟨_, rfl⟩
  rw [hW1] at hS hF
  have d1 := row_cell hS.blk 1
  have e1 := row_frozen hS.blk 1
  obtain ⟨hS2, hF2⟩ := hS.cut hm
  have HO := hid (show HqL Q hb sv (.slice (some ⟨gp, 0, none⟩) n cp) (.slice (some ⟨gl, 0, none⟩) vs.length cl) n sc (vs.take m) W _ from ⟨_, _, hS2, HPL.out, hF.trans hF2, fun q e => by cases e; exact .inl rfl⟩)
  clear hS hF hS2 hF2 HPL
  go_enter Try.func97, Try.ntmps97
  go_wp2
  go_ret
  exact ⟨rfl, HO.out⟩
end Go.Proofs.Ytjbnkkjihcoojaa
