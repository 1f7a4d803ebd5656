/- The trail's rows turned: what is known of a variable, a literal more, a level more. -/
import Derived.Test.YtckpahdlcdgbpaaNw
namespace Go.Proofs.Ytckpahdlcdgbpaa
open Go.RowKit Go.Maps
set_option linter.unusedVariables false
set_option maxRecDepth 100000

def set4 (W : World) (g k : Nat) (v0 v1 v2 v3 : Value) : World := (((W.setCell ⟨g, k, none⟩ v0).setCell ⟨g, k + 1, none⟩ v1).setCell ⟨g, k + 2, none⟩ v2).setCell ⟨g, k + 3, none⟩ v3
theorem set4_other (W : World) (g k : Nat) (v0 v1 v2 v3 : Value) {x : Nat} (h : x ≠ g) : (set4 W g k v0 v1 v2 v3).heap[x]? = W.heap[x]? := by
  unfold set4
  rw [heap_other _ _ h, heap_other _ _ h, heap_other _ _ h, heap_other _ _ h]
theorem set4_size (W : World) (g k : Nat) (v0 v1 v2 v3 : Value) : (set4 W g k v0 v1 v2 v3).heap.size = W.heap.size := by simp [set4, World.setCell]
theorem own_other {W W' : World} {base e size n g : Nat} {v : Value} {xs : List Value} (h : W.ownsRow base e size v n xs) (hne : v.ownBlock ≠ some g) (ho : ∀ x, x ≠ g → W'.heap[x]? = W.heap[x]?) : W'.ownsRow base e size v n xs := by
  refine ⟨h.1, h.2.imp id ?_⟩
  rintro ⟨g', c, cur, e1, h1, h2, h3⟩
  refine ⟨g', c, cur, e1, h1, (ho g' (fun e => hne ?_)).trans h2, h3⟩
  rw [e1, e]; rfl
theorem Tr.set4 {Q : Nat → Prop} {tb gv : Nat} {lv bv : Value} {n : Nat} {f : Nat → Trl.K} {R : List Trl.E} {B : List Nat} {h : Nat} {W : World} (H : Tr Q tb gv lv bv n f R B h W) {v : Nat} (hv : v < n) (k : Trl.K) (k0 : Value) (hk : k0 = .int .i32 k.lit) :
    Tr Q tb gv lv bv n (fun u => if u = v then k else f u) R B h (set4 W gv (v * 4) k0 (.int .i64 k.lev) (.int .i64 k.rea) (.int .i64 k.pla)) ∧ Fr pA Q W (set4 W gv (v * 4) k0 (.int .i64 k.lev) (.int .i64 k.rea) (.int .i64 k.pla)) := by
  subst hk
  obtain ⟨n1, n2, n3, n4, n5, n6⟩ := H.apart
  obtain ⟨cur, q1, q2⟩ := H.var
  have hoth := fun x hx => set4_other W gv (v * 4) (.int .i32 k.lit) (.int .i64 k.lev) (.int .i64 k.rea) (.int .i64 k.pla) (x := x) hx
  have hblk : (Ytckpahdlcdgbpaa.set4 W gv (v * 4) (.int .i32 k.lit) (.int .i64 k.lev) (.int .i64 k.rea) (.int .i64 k.pla)).heap[gv]? = some (.cells _ 74 (0, 0)) := heap_set_row (heap_set_row (heap_set_row (heap_set_row q1 _) _) _) _
  have hsz := set4_size W gv (v * 4) (.int .i32 k.lit) (.int .i64 k.lev) (.int .i64 k.rea) (.int .i64 k.pla)
  refine ⟨⟨fun g hg => by rw [hsz]; exact H.lt g hg, H.nt, H.nv, H.nl, H.nb, (hoth _ n1).trans H.blk, ⟨_, hblk, q2.set4 hv k⟩, own_other H.lits n4 hoth, own_other H.begs n5 hoth⟩, ⟨rfl, rfl, rfl, by rw [hsz]; exact Nat.le_refl _, fun g o hg hp => ?_⟩⟩
  refine (hoth g (fun e => ?_)).trans hg
  subst e
  rcases hp with hp | hp
  · exact H.nv hp
  · rw [q1] at hg; cases hg; exact hp (.inr (.inl rfl))

theorem own_grown2 {W W' : World} {base e size n : Nat} {v : Value} {xs : List Value} {row : Option Nat} (h : W.ownsRow base e size v n xs) (hg : W.grownBy W' row) (hne : ∀ q, v.ownBlock = some q → row ≠ some q) : W'.ownsRow base e size v n xs := by
  refine ⟨h.1, h.2.imp id ?_⟩
  rintro ⟨g', c, cur, e1, h1, h2, h3⟩
  exact ⟨g', c, cur, e1, h1, (hg.block g' (lt_of_blk h2) (fun e => hne g' (by rw [e1]; rfl) e.symm)).trans h2, h3⟩

/-- A literal more. -/
theorem Tr.push {Q : Nat → Prop} {tb gv : Nat} {lv bv : Value} {n : Nat} {f : Nat → Trl.K} {R : List Trl.E} {B : List Nat} {h : Nat} {W : World} (H : Tr Q tb gv lv bv n f R B h W) (e : Trl.E) (hlen : R.length ≤ 1048576) :
    ∃ g c X, (Builtin.append_ #[40, 40] 40 #[lv, .slice (some ⟨W.heap.size, 0, none⟩) 1 1]).run Try.prog (W.alloc (.cells #[.int .i32 e.lit] 33)) = .ok (.slice (some ⟨g, 0, none⟩) (R.length + 1) c) X ∧
      X.cell? ⟨tb, 1, none⟩ = some lv ∧ X.frozen? ⟨tb, 1, none⟩ = false ∧
      Tr Q tb gv (.slice (some ⟨g, 0, none⟩) (R.length + 1) c) bv n f (R ++ [e]) B h (X.setCell ⟨tb, 1, none⟩ (.slice (some ⟨g, 0, none⟩) (R.length + 1) c)) ∧ Fr pA Q W (X.setCell ⟨tb, 1, none⟩ (.slice (some ⟨g, 0, none⟩) (R.length + 1) c)) := by
  obtain ⟨i0, hi, hz⟩ := Option.map_eq_some_iff.1 info33
  simp only [Prod.mk.injEq] at hz
  obtain ⟨n1, n2, n3, n4, n5, n6⟩ := H.apart
  have hal := below_box W (.cells #[.int .i32 e.lit] 33)
  have hsz : (W.alloc (.cells #[.int .i32 e.lit] 33)).heap.size = W.heap.size + 1 := by simp
  have H1 := H.below hal
  obtain ⟨g, c, X, hr, hown, hgr, hat, hlt⟩ := run_append_lies (P := Try.prog) (W.alloc (.cells #[.int .i32 e.lit] 33)) 40 40 0 33 i0 _ 1 4 Try.underlying40 hi hz.1 hz.2.1 hz.2.2 rfl (by decide) lv R.length _ H1.lits
    ⟨W.heap.size, 0, none⟩ 1 1 [.int .i32 e.lit] rfl (World.news_of_block (heap_alloc_new W (.cells #[.int .i32 e.lit] 33))) (by intro u hu; rw [List.mem_singleton.1 hu]; rfl) (by decide) (by unfold maxLen; omega) (by omega) (Nat.zero_le _) _ hsz
  have htbl := lt_of_blk H.blk
  have hblk : X.heap[tb]? = some (.cells #[.slice (some ⟨gv, 0, none⟩) n n, lv, bv, .int .i64 h] 63 (0, 0)) :=
    (hgr.block tb (by rw [hsz]; omega) (fun e => n2 e.symm)).trans H1.blk
  obtain ⟨_, curg, hgc⟩ := own_blk (g := g) hown rfl
  have hgtb : g ≠ tb := by rintro rfl; rw [hblk] at hgc; injection hgc with e3; injection e3 with _ e3; cases e3
  have hngQ : ¬ Q g := by
    rcases hat with e | e
    · exact H.nl g e
    · intro hq; have := H.lt g hq; omega
  obtain ⟨cur, q1, q2⟩ := H1.var
  have hgvl := H.lts.2.1
  have hgv : X.heap[gv]? = some (.cells cur 74 (0, 0)) := (hgr.block gv (by rw [hsz]; omega) (fun e => n4 e.symm)).trans q1
  have hXs := hgr.size
  have hoth : ∀ x, x ≠ tb → (X.setCell ⟨tb, 1, none⟩ (.slice (some ⟨g, 0, none⟩) (R.length + 1) c)).heap[x]? = X.heap[x]? := fun x hx => heap_other X _ hx
  have hoz : (X.setCell ⟨tb, 1, none⟩ (.slice (some ⟨g, 0, none⟩) (R.length + 1) c)).heap.size = X.heap.size := by simp [World.setCell]
  refine ⟨g, c, X, hr, row_cell hblk 1, row_frozen hblk 1, ?_, ?_⟩
  · refine ⟨fun q hq => by rw [hoz]; have := H.lt q hq; omega, H.nt, H.nv, (fun q e => by cases e; exact hngQ), H.nb, ?_, ⟨cur, (hoth gv (fun e => n1 e.symm)).trans hgv, q2⟩, own_other (g := tb) (by rw [List.length_append, show ilits (R ++ [e]) = ilits R ++ [.int .i32 e.lit] by simp [ilits]]; exact hown) (by intro e; cases e; exact hgtb rfl) hoth, own_other (own_grown2 H1.begs hgr (fun q e1 e2 => n6 q e2 e1)) n3 hoth⟩
    · rw [heap_set_row hblk]; rfl
  · refine (Fr.of_below hal).trans ((Fr.grown hgr (fun q hq => ?_)).trans (Fr.set X _ H.nt (fun o ho => ?_)))
    · refine ⟨H.nl q hq, fun o ho => ?_⟩
      obtain ⟨_, cq, hq2⟩ := own_blk H1.lits hq
      rw [hq2] at ho; cases ho
      exact .inr (.inr (.inl rfl))
    · have : X.heap[tb]? = some o := ho
      rw [hblk] at this; cases this; exact .inl rfl

/-- A level more. -/
theorem Tr.pushB {Q : Nat → Prop} {tb gv : Nat} {lv bv : Value} {n : Nat} {f : Nat → Trl.K} {R : List Trl.E} {B : List Nat} {h : Nat} {W : World} (H : Tr Q tb gv lv bv n f R B h W) (b : Nat) (hlen : B.length ≤ 1048576) :
    ∃ g c X, (Builtin.append_ #[34, 34] 34 #[bv, .slice (some ⟨W.heap.size, 0, none⟩) 1 1]).run Try.prog (W.alloc (.cells #[.int .i64 (b : Nat)] 3)) = .ok (.slice (some ⟨g, 0, none⟩) (B.length + 1) c) X ∧
      X.cell? ⟨tb, 2, none⟩ = some bv ∧ X.frozen? ⟨tb, 2, none⟩ = false ∧
      Tr Q tb gv lv (.slice (some ⟨g, 0, none⟩) (B.length + 1) c) n f R (B ++ [b]) h (X.setCell ⟨tb, 2, none⟩ (.slice (some ⟨g, 0, none⟩) (B.length + 1) c)) ∧ Fr pA Q W (X.setCell ⟨tb, 2, none⟩ (.slice (some ⟨g, 0, none⟩) (B.length + 1) c)) := by
  obtain ⟨i0, hi, hz⟩ := Option.map_eq_some_iff.1 info3
  simp only [Prod.mk.injEq] at hz
  obtain ⟨n1, n2, n3, n4, n5, n6⟩ := H.apart
  have hal := below_box W (.cells #[.int .i64 (b : Nat)] 3)
  have hsz : (W.alloc (.cells #[.int .i64 (b : Nat)] 3)).heap.size = W.heap.size + 1 := by simp
  have H1 := H.below hal
  obtain ⟨g, c, X, hr, hown, hgr, hat, hlt⟩ := run_append_lies (P := Try.prog) (W.alloc (.cells #[.int .i64 (b : Nat)] 3)) 34 34 0 3 i0 _ 1 8 Try.underlying34 hi hz.1 hz.2.1 hz.2.2 rfl (by decide) bv B.length _ H1.begs
    ⟨W.heap.size, 0, none⟩ 1 1 [.int .i64 (b : Nat)] rfl (World.news_of_block (heap_alloc_new W (.cells #[.int .i64 (b : Nat)] 3))) (by intro u hu; rw [List.mem_singleton.1 hu]; rfl) (by decide) (by unfold maxLen; omega) (by omega) (Nat.zero_le _) _ hsz
  have htbl := lt_of_blk H.blk
  have hblk : X.heap[tb]? = some (.cells #[.slice (some ⟨gv, 0, none⟩) n n, lv, bv, .int .i64 h] 63 (0, 0)) :=
    (hgr.block tb (by rw [hsz]; omega) (fun e => n3 e.symm)).trans H1.blk
  obtain ⟨_, curg, hgc⟩ := own_blk (g := g) hown rfl
  have hgtb : g ≠ tb := by rintro rfl; rw [hblk] at hgc; injection hgc with e3; injection e3 with _ e3; cases e3
  have hngQ : ¬ Q g := by
    rcases hat with e | e
    · exact H.nb g e
    · intro hq; have := H.lt g hq; omega
  obtain ⟨cur, q1, q2⟩ := H1.var
  have hgvl := H.lts.2.1
  have hgv : X.heap[gv]? = some (.cells cur 74 (0, 0)) := (hgr.block gv (by rw [hsz]; omega) (fun e => n5 e.symm)).trans q1
  have hXs := hgr.size
  have hoth : ∀ x, x ≠ tb → (X.setCell ⟨tb, 2, none⟩ (.slice (some ⟨g, 0, none⟩) (B.length + 1) c)).heap[x]? = X.heap[x]? := fun x hx => heap_other X _ hx
  have hoz : (X.setCell ⟨tb, 2, none⟩ (.slice (some ⟨g, 0, none⟩) (B.length + 1) c)).heap.size = X.heap.size := by simp [World.setCell]
  refine ⟨g, c, X, hr, row_cell hblk 2, row_frozen hblk 2, ?_, ?_⟩
  · refine ⟨fun q hq => by rw [hoz]; have := H.lt q hq; omega, H.nt, H.nv, H.nl, (fun q e => by cases e; exact hngQ), ?_, ⟨cur, (hoth gv (fun e => n1 e.symm)).trans hgv, q2⟩, own_other (own_grown2 H1.lits hgr (fun q e1 e2 => n6 q e1 e2)) n2 hoth, own_other (g := tb) (by rw [List.length_append, show ibegs (B ++ [b]) = ibegs B ++ [.int .i64 (b : Nat)] by simp [ibegs]]; exact hown) (by intro e; cases e; exact hgtb rfl) hoth⟩
    · rw [heap_set_row hblk]; rfl
  · refine (Fr.of_below hal).trans ((Fr.grown hgr (fun q hq => ?_)).trans (Fr.set X _ H.nt (fun o ho => ?_)))
    · refine ⟨H.nb q hq, fun o ho => ?_⟩
      obtain ⟨_, cq, hq2⟩ := own_blk H1.begs hq
      rw [hq2] at ho; cases ho
      exact .inr (.inr (.inr rfl))
    · have : X.heap[tb]? = some o := ho
      rw [hblk] at this; cases this; exact .inl rfl

end Go.Proofs.Ytckpahdlcdgbpaa
