/- A function that loops over functions round after round: the marks that its loops leave among its deferred calls; results that lie in cells. -/
import Derived.Test.YtlhpnkgdnmnclaaDoorWords
import Derived.Test.YtlhpnkgdnmnclaaDoorCut
namespace Go.Proofs.YtlhpnkgdnmnclaaDoor
open Go.RowKit
set_option linter.unusedVariables false

theorem Book.boxed {c : Option Nat} {B b : Nat} {A A' : World} {t : TypeId} {v : Value} (h : Book c B A A') (hb : Boxed A b t v) (hc : c ≠ some b) : Boxed A' b t v := h.same b _ hb hc (.inr rfl)

/-- The marks of loops that are over: their blocks hold no call. -/
def Marks (B : Nat) (W : World) (ds : List Deferred) : Prop :=
  ∃ Ds : List Nat, ds = Ds.map (fun D => { target := .collected D, args := #[] }) ∧ Ds.Nodup ∧ ∀ D ∈ Ds, B ≤ D ∧ W.heap[D]? = some (.deferred (some []))

theorem Marks.nil (B : Nat) (W : World) : Marks B W [] := ⟨[], rfl, List.nodup_nil, fun _ h => by cases h⟩
theorem Marks.kept {B : Nat} {W W' : World} {ds : List Deferred} (h : Marks B W ds) (hk : KeepsFrom B W W') : Marks B W' ds := by
  obtain ⟨Ds, h1, h2, h3⟩ := h
  exact ⟨Ds, h1, h2, fun D hD => ⟨(h3 D hD).1, hk.same D _ (h3 D hD).1 (h3 D hD).2 rfl⟩⟩
theorem Marks.below {B : Nat} {W W' : World} {ds : List Deferred} (h : Marks B W ds) (hk : Below W.heap.size W W') : Marks B W' ds := by
  obtain ⟨Ds, h1, h2, h3⟩ := h
  exact ⟨Ds, h1, h2, fun D hD => ⟨(h3 D hD).1, (hk.block D (Array.getElem?_eq_some_iff.1 (h3 D hD).2).1).trans (h3 D hD).2⟩⟩
theorem Marks.book {B B' : Nat} {c : Option Nat} {W W' : World} {ds : List Deferred} (h : Marks B W ds) (hs : W.heap.size ≤ B') (hk : Book c B' W W') (hc : ∀ k, c = some k → ∃ t v, Boxed W k t v) : Marks B W' ds := by
  obtain ⟨Ds, h1, h2, h3⟩ := h
  refine ⟨Ds, h1, h2, fun D hD => ⟨(h3 D hD).1, hk.same D _ (h3 D hD).2 (fun e => ?_) (.inl (Nat.lt_of_lt_of_le (Array.getElem?_eq_some_iff.1 (h3 D hD).2).1 hs))⟩⟩
  obtain ⟨t, v, hb⟩ := hc D e
  have := (h3 D hD).2
  rw [show W.heap[D]? = _ from hb] at this
  cases this
theorem Marks.cons {B : Nat} {W : World} {ds : List Deferred} {D : Nat} (h : Marks B W ds) (hD : B ≤ D) (hd : W.heap[D]? = some (.deferred (some []))) (hn : ∀ d ∈ ds, ∀ D', d.target = .collected D' → D' < D) : Marks B W ({ target := .collected D, args := #[] } :: ds) := by
  obtain ⟨Ds, rfl, h2, h3⟩ := h
  refine ⟨D :: Ds, rfl, List.nodup_cons.2 ⟨fun hm => ?_, h2⟩, fun D' hD' => ?_⟩
  · have := hn _ (List.mem_map_of_mem hm) D rfl
    omega
  · rcases List.mem_cons.1 hD' with rfl | h
    · exact ⟨hD, hd⟩
    · exact h3 D' h
theorem Marks.lt {B : Nat} {W : World} {ds : List Deferred} (h : Marks B W ds) : ∀ d ∈ ds, ∀ D', d.target = .collected D' → D' < W.heap.size := by
  obtain ⟨Ds, rfl, h2, h3⟩ := h
  intro d hd D' he
  obtain ⟨D, hm, rfl⟩ := List.mem_map.1 hd
  cases he
  exact (Array.getElem?_eq_some_iff.1 (h3 _ hm).2).1

/-- A function leaves through its marks. -/
theorem leave_marks {P : Program} {n B : Nat} {fn : Func} {tmps : Array Value} {R : Ending → World → Prop} : ∀ {ds : List Deferred} {W : World}, Marks B W ds →
    (∀ W', Book none B W W' → ∃ v, (results fn tmps).run P W' = .ok v W' ∧ R (.returned v) W') → LeavesInM Fence.wide n P fn tmps R ds .returning W := by
  rintro ds W ⟨Ds, rfl, h2, h3⟩
  induction Ds generalizing W with
  | nil => intro h; exact h W (Book.refl _ _ _)
  | cons D Ds ih =>
    intro h
    obtain ⟨hD, hd⟩ := h3 D (by simp)
    have bk : Book none B W (W.putObj D (.deferred none)) := Book.putObj _ hD hd rfl
    refine ⟨by simp, .inl ⟨D, _, rfl, run_takeDeferred hd, ih (List.nodup_cons.1 h2).2 (fun D' hD' => ?_) (fun W' hW' => h W' (bk.trans hW'))⟩⟩
    have hne : D' ≠ D := fun e => (List.nodup_cons.1 h2).1 (e ▸ hD')
    exact ⟨(h3 D' (by simp [hD'])).1, (World.putObj_heap_other hne).trans (h3 D' (by simp [hD'])).2⟩

theorem results_cells3 {P : Program} {fn : Func} {p q r : Tmp} {t u v : TypeId} (h : fn.results = #[.cell p t, .cell q u, .cell r v]) (tmps : Array Value) (w : World) {ap aq ar : Addr} {x y z : Value}
    (hp : tmps.getD p undef = .pointer (some ap)) (hq : tmps.getD q undef = .pointer (some aq)) (hr : tmps.getD r undef = .pointer (some ar))
    (hx : (loadVar t ap).run P w = .ok x w) (hy : (loadVar u aq).run P w = .ok y w) (hz : (loadVar v ar).run P w = .ok z w) : (results fn tmps).run P w = .ok (.tuple #[x, y, z]) w := by
  simp only [results, h, List.mapM_toArray]
  simp only [Array.getD_eq_getD_getElem?] at hp hq hr
  simp [Sem.run_bind, Result.andThen, hp, hq, hr, asAddr, hx, hy, hz]

theorem load_box3 (w : World) {b : Nat} {t : TypeId} {v : Value} (h : Boxed w b t v) : (loadVar 3 ⟨b, 0, none⟩).run Tryd.prog w = .ok v w := by
  have := h.cell
  simp [loadVar, go_sem, this]
theorem load_box22 (w : World) {b : Nat} {t : TypeId} {v : Value} (h : Boxed w b t v) : (loadVar 22 ⟨b, 0, none⟩).run Tryd.prog w = .ok v w := by
  have := h.cell
  simp [loadVar, go_sem, this]
theorem load_box26 (w : World) {b : Nat} {t : TypeId} {v : Value} (h : Boxed w b t v) : (loadVar 26 ⟨b, 0, none⟩).run Tryd.prog w = .ok v w := by
  have := h.cell
  simp [loadVar, go_sem, this]
theorem load_box4 (w : World) {b : Nat} {t : TypeId} {v : Value} (h : Boxed w b t v) : (loadVar 4 ⟨b, 0, none⟩).run Tryd.prog w = .ok v w := by
  have := h.cell
  simp [loadVar, go_sem, this]

end Go.Proofs.YtlhpnkgdnmnclaaDoor
