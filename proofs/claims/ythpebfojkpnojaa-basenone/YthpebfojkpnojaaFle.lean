/- A check's hints: what stands under an id, and the rows that it reads. -/
import Derived.Test.YthpebfojkpnojaaFlp
namespace Go.Proofs.Ythpebfojkpnojaa
open Go.RowKit Go.Maps
set_option linter.unusedVariables false
set_option linter.unusedSimpArgs false
theorem Chk.row_ {k : IntKind} {lo hi : Int} {M : Nat → Prop} {bb pb fb gt m cz : Nat} {ts T : List Int} {W X : World} {a : Option Addr} {xs : List Int} (hc : Chk bb pb fb gt m cz ts T W X) (hMg : M gt) (h : RI k lo hi M W a xs) : Row k lo hi X a xs := by
  obtain ⟨⟨h1, h2⟩, h3⟩ := h
  refine ⟨h1, ?_⟩
  by_cases hx : xs = []
  · exact .inl hx
  · rcases h2 with h2 | ⟨b, off, e, hl, h4⟩
    · exact absurd h2 hx
    · exact .inr ⟨b, off, e, Nat.lt_of_lt_of_le hl hc.size, fun j hj => (World.cell?_of_block (w := W) (a := ⟨b, off + j, none⟩) (hc.block b hl (fun e2 => h3 b off e hx (e2 ▸ hMg)))).trans (h4 j hj)⟩
theorem Chk.ent {M : Nat → Prop} {bb K pb fb gt m cz : Nat} {s : Bas.S} {ts T : List Int} {W X : World} (h : Bs M bb K s W) (hMg : M gt) (hc : Chk bb pb fb gt m cz ts T W X) (hT0 : TrW gt m cz (List.replicate m 0) W W) (id : Int) (hi : I64 id) :
    ∃ bm v, X.cell? ⟨bb, 3, none⟩ = some (.map (some bm)) ∧ (Instr.lookup 75 (.map (some bm)) (.int .i64 id) true).run Try.prog X = .ok (.tuple #[v, .bool (Bas.look s.live id).isSome]) X ∧
      (Bas.look s.live id = none → v = .agg #[.int .i64 0, .slice none 0 0, .bool false]) ∧ (∀ e, Bas.look s.live id = some e → ∃ a c, v = .agg #[.int .i64 e.id, .slice a e.lits.length c, .bool e.red] ∧ Lits X a e.lits) := by
  obtain ⟨hv, bm, br, k, k2, f, g, rv, sv, tv, R, Z, rw', ids, iv, hb, m1, m2, m3, hne, ⟨a1, a2, a3⟩, _⟩ := h
  obtain ⟨cur, r1, _⟩ := hT0.row
  have hbg : bb ≠ gt := fun e => by
    rw [e, r1] at hb
    injection hb with hb; injection hb with _ hb _; cases hb
  have hbm : bm ≠ gt := fun e => by
    obtain ⟨es, cl, h9⟩ := a1.obj
    rw [e, r1] at h9; cases h9
  have hlk := (a1.same (hc.block bm a1.lt hbm)).look hi
  have hE := a3 id hi
  refine ⟨bm, (f id).getD (.agg #[.int .i64 0, .slice none 0 0, .bool false]), (World.cell?_of_block (a := ⟨bb, 3, none⟩) (hc.block bb (lt_of_blk hb) hbg)).trans (row_cell hb 3), ?_, ?_, ?_⟩
  · rw [hlk]
    cases he : Bas.look s.live id with
    | none => rw [he] at hE; simp only [EntAt] at hE; rw [hE]; rfl
    | some e => rw [he] at hE; obtain ⟨a9, c9, hf, _⟩ := hE; rw [hf]; rfl
  · intro he
    rw [he] at hE; simp only [EntAt] at hE; rw [hE]; rfl
  · intro e he
    rw [he] at hE
    obtain ⟨a9, c9, hf, hr, _⟩ := hE
    exact ⟨a9, c9, by rw [hf]; rfl, hc.row_ hMg hr⟩
end Go.Proofs.Ythpebfojkpnojaa
