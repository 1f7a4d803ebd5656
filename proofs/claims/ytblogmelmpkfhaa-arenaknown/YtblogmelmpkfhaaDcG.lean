/- The document's Get. -/
import Derived.Test.YtblogmelmpkfhaaDcK
namespace Go.Proofs.Ytblogmelmpkfhaa
open Go.RowKit Go.Maps
set_option linter.unusedVariables false

def gv (r room id : Int) (a : Option Addr) (len cap : Nat) (red : Bool) (lbd used : Int) (dead : Bool) : Array Value := #[.int .i64 r, .int .i64 room, .int .i64 id, .slice a len cap, .bool red, .int .i64 lbd, .int .i64 used, .bool dead]
/-- What Get tells. -/
def GetOut (M : List Arn.It) (r : Int) (e : Ending) (w' : World) : Prop := match Arn.find M r with
  | none => e = .returned (.agg (gv 0 0 0 none 0 0 false 0 0 false))
  | some x => ∃ a cap, e = .returned (.agg (gv r (x.room : Nat) x.id a x.lits.length cap x.red x.lbd x.used false)) ∧ LR w' a x.lits
theorem get_some {M : List Arn.It} {r : Int} {x : Arn.It} {w' : World} (hf : Arn.find M r = some x) (a : Option Addr) (cap : Nat) (hl : LR w' a x.lits) : GetOut M r (.returned (.agg (gv r (x.room : Nat) x.id a x.lits.length cap x.red x.lbd x.used false))) w' := by
  unfold GetOut
  rw [hf]
  exact ⟨a, cap, rfl, hl⟩
theorem get_none {M : List Arn.It} {r : Int} {w' : World} (hf : Arn.find M r = none) : GetOut M r (.returned (.agg (gv 0 0 0 none 0 0 false 0 0 false))) w' := by
  unfold GetOut
  rw [hf]
set_option maxRecDepth 100000 in
set_option maxHeartbeats 2000000 in
theorem get50 {n db lim : Nat} {M : List Arn.It} {W : World} (hA : Dcx n db lim M W) (r : Int) :
    Calls Try.prog 50 #[.pointer (some ⟨db, 0, none⟩), .int .i64 r] W fun e w' => GetOut M r e w' ∧ Below W.heap.size W w' := by
  obtain ⟨v, E, h, rfl⟩ := hA
  have hb0 := below_box W (.cells (gv 0 0 0 none 0 0 false 0 0 false) 92)
  have C48 := hid (find48 (h.below hb0) r)
  have HD := hid h
  unfold gv at C48
  go_enter Try.func50, Try.ntmps50
  go_wp2_with (fail)
  go_at_call 48
  refine C48.out.mono ?_
  rintro e w2 ⟨hf, hw2⟩
  rw [hw2]
  clear hw2 C48
  rcases hf with ⟨rfl, hf⟩ | ⟨i, x, rfl, hx, hp, hd⟩
  · have HO := hid (fun w' => get_none (w' := w') hf)
    clear hf h hb0
    go_wp2
    refine bodyPost_ret (results_cell_row rfl _ _ W.heap.size 92 _ (0, 0) _ rfl (heap_alloc_new _ _) Try.underlying92 rfl (by kernel_rfl)) rfl ?_
    exact ⟨HO.out _, below_box _ _⟩
  · obtain ⟨g, c, a, cap, rfl, he, hi, hEl, hg, hok, hroom, hpz⟩ := h.hit hx
    have hat := Arn.at_take h.ok hx
    rw [hp] at hat
    have hfind : Arn.find (items E) r = some x := Arn.find_some.2 ⟨hat.1, hd⟩
    have hD0 := h.below hb0
    unfold gv at hD0
    have x0 := hD0.cell he (t := 0) rfl
    have x1 := hD0.cell he (t := 1) rfl
    have x2 := hD0.cell he (t := 2) rfl
    have x3 := hD0.cell he (t := 3) rfl
    have x4 := hD0.cell he (t := 4) rfl
    have x5 := hD0.cell he (t := 5) rfl
    have x6 := hD0.cell he (t := 6) rfl
    have x7 := hD0.cell he (t := 7) rfl
    simp only [hd] at x7
    rw [Nat.add_zero, hp] at x0
    have hc1 := row_cell hD0.blk 1
    have HO := hid (fun (w' : World) (hb : Below W.heap.size W w') => get_some hfind a cap (((h.below hb).lits (x, a, cap) (List.mem_of_getElem? he))))
    have hiE : (i : Int) < E.length := by omega
    clear hfind hat h hD0 hb0
    go_wp2
    refine bodyPost_ret (results_cell_row rfl _ _ W.heap.size 92 _ (0, 0) _ rfl (heap_alloc_new _ _) Try.underlying92 rfl (by kernel_rfl)) rfl ?_
    exact ⟨HO.out _ (below_box _ _), below_box _ _⟩
end Go.Proofs.Ytblogmelmpkfhaa
