/- A step put behind a row of bytes, by the document. -/
import Derived.Test.YtmgeoeajnpnadaaDoorPutR
namespace Bin
/-- A step's bytes. -/
def stp (s : Lra.Stp) : List Int := (if s.kind = 1 then 97 else 100) :: (num s.id ++ (row s.lits ++ ((if s.kind = 1 then [0] else []) ++ (row s.hints ++ [0]))))
end Bin
namespace Go.Proofs.YtmgeoeajnpnadaaDoor
open Go.RowKit
set_option linter.unusedVariables false
set_option linter.unusedSimpArgs false

theorem own_not {W : World} {n m k : Nat} {v : Value} {xs : List Value} (h : W.ownsRow n 5 1 v m xs) (hk : W.heap.size ≤ k) : v.ownBlock ≠ some k := fun e => by have := (h.lt k e).2; omega
/-- Where one stands while a step is put: the bytes so far, the step's box untouched. -/
structure At (w0 X : World) (v0 : Value) (wr : World) (v : Value) (k : Nat) (ys : List Int) : Prop where
  own : wr.ownsRow w0.heap.size 5 1 v k (ys.map (Value.int .u8))
  len : ys.length = k
  gr : Grow X wr v0 v
  bel : Below w0.heap.size w0 wr
theorem At.push {w0 X wr : World} {v0 : Value} {o : Option Addr} {k c : Nat} {ys : List Int} (h : At w0 X v0 wr (.slice o k c) k ys) (x : Int) (hk : k ≤ 900000000) :
    ∃ o' c' B, (Builtin.append_ #[23, 23] 23 #[.slice o k c, .slice (some ⟨wr.heap.size, 0, none⟩) 1 1]).run Tryd.prog (wr.alloc (.cells #[.int .u8 x] 5)) = .ok (.slice o' (k + 1) c') B ∧ At w0 X v0 B (.slice o' (k + 1) c') (k + 1) (ys ++ [x]) := by
  obtain ⟨o3, c3, B, r3, ho3, k3, z3, s3, t3, u3, w3⟩ := push5 h.len h.own x (by omega) h.bel.size
  have hg := Grow.push (n := 0) k3 z3 s3 t3 u3 w3
  exact ⟨o3, c3, B, r3, ho3, by simp [h.len], h.gr.trans hg, hg.below h.bel h.own⟩
/-- The box's cells. -/
theorem At.cell {w0 X wr : World} {v0 v : Value} {k b i : Nat} {ys : List Int} {u : Value} (h : At w0 X v0 wr v k ys) (hb : v0.ownBlock ≠ some b) (hX : X.cell? ⟨b, i, none⟩ = some u) : wr.cell? ⟨b, i, none⟩ = some u :=
  (World.cell?_of_block (w := X) (a := ⟨b, i, none⟩) (h.gr.keep b (cell_lt hX) hb)).trans hX

end Go.Proofs.YtmgeoeajnpnadaaDoor
