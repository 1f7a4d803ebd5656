/- The document's Reach; a row of literals appended to none. -/
import Derived.Test.YtkodfojccodoaaaDcS
namespace Go.Proofs.Ytkodfojccodoaaa
open Go.RowKit Go.Maps
set_option linter.unusedVariables false
set_option linter.unusedSimpArgs false
set_option maxRecDepth 100000
theorem info48 : (Try.prog.info? 48).map (fun i => (i.zero, i.size, i.bytes)) = some (some (.int .i32 0), 1, 4) := by kernel_rfl
theorem lis_one (L : List Int) : ∀ u ∈ lis L, u.oneCell' = true := by
  intro u hu
  obtain ⟨v, _, rfl⟩ := List.mem_map.1 hu
  rfl
theorem appL {W : World} {a : Option Addr} {c : Nat} {l : List Int} (h : Lw W a l) (hl : l.length ≤ 16777216) :
    ∃ o k B, (Builtin.append_ #[33, 33] 33 #[.slice none 0 0, .slice a l.length c]).run Try.prog W = .ok (.slice o l.length k) B ∧ B.ownsRow W.heap.size 48 1 (.slice o l.length k) l.length (lis l) ∧ Below W.heap.size W B := by
  rcases Nat.eq_zero_or_pos l.length with h0 | h0
  · have hl0 : l = [] := List.eq_nil_of_length_eq_zero h0
    subst hl0
    refine ⟨none, 0, W, ?_, World.ownsRow_nil _ _ _ _, Below.refl _ _⟩
    cases a <;> kernel_rfl
  · rcases h with h | ⟨b, off, rfl, h⟩
    · rw [h] at h0; simp at h0
    · obtain ⟨i0, hi, hz⟩ := Option.map_eq_some_iff.1 info48
      simp only [Prod.mk.injEq] at hz
      obtain ⟨v2, B, hr, ho2, hgb, _, _⟩ := run_append_own_at (P := Try.prog) W W.heap.size 33 33 48 i0 _ 1 4 Try.underlying33 hi hz.1 hz.2.1 hz.2.2 rfl (by decide) (.slice none 0 0) 0 [] (World.ownsRow_nil _ _ _ _) ⟨b, off, none⟩ l.length c (lis l) (by simp [lis]) (fun j u hu => by
        have hj : j < l.length := by
          rcases Nat.lt_or_ge j l.length with h' | h'
          · exact h'
          · rw [List.getElem?_eq_none (by simpa [lis] using h')] at hu; cases hu
        rw [show (⟨b, off, none⟩ : Addr).add j = ⟨b, off + j, none⟩ by simp [Addr.add], (h j hj).1, ← hu]
        unfold lis
        rw [List.getElem?_map, List.getElem?_eq_getElem hj, List.getD_eq_getElem?_getD, List.getElem?_eq_getElem hj]; rfl) (lis_one l) (by simp [maxLen]; omega) (by omega) (by omega)
      obtain ⟨o, k, rfl⟩ := own_slc ho2
      rw [Nat.zero_add] at hr ho2
      rw [List.nil_append] at ho2
      exact ⟨o, k, B, hr, ho2, ⟨hgb.os, hgb.tape, hgb.output, hgb.size, fun q hq => hgb.block q (by omega) (by intro e; cases e)⟩⟩
theorem lw_bd {W : World} {a : Option Addr} {l : List Int} (h : Lw W a l) : ∀ x ∈ l, -2147483648 ≤ x ∧ x ≤ 2147483647 := by
  intro x hx
  obtain ⟨j, hj, rfl⟩ := List.mem_iff_getElem.1 hx
  rcases h with h | ⟨b, off, _, h⟩
  · rw [h] at hj; simp at hj
  · have := (h j hj).2
    rwa [List.getD_eq_getElem?_getD, List.getElem?_eq_getElem hj] at this
theorem Dm.setT {D : Da} {P : Ph.St} {W : World} (H : Dm D P W) {base : Nat} {o : Option Addr} {k : Nat} {l : List Int} (ho : W.ownsRow base 48 1 (.slice o l.length k) l.length (lis l)) (hr : ∀ x ∈ l, -2147483648 ≤ x ∧ x ≤ 2147483647) (hl : l.length ≤ maxLen) :
    Dm { D with aT := o, cT := k } { P with T := l } ((W.setCell ⟨D.qb, 2, none⟩ (.int .i64 (l.length : Int))).setCell ⟨D.qb, 3, none⟩ (.slice o l.length k)) ∧ Fd D W ((W.setCell ⟨D.qb, 2, none⟩ (.int .i64 (l.length : Int))).setCell ⟨D.qb, 3, none⟩ (.slice o l.length k)) := by
  have hq := own_type ho H.blk (by decide)
  refine ⟨⟨?_, own_keep (own_keep H.vs (fun e => H.apart e.symm) _) (fun e => H.apart e.symm) _, own_base (own_keep (own_keep ho hq.symm _) hq.symm _) (Nat.zero_le _), own_keep (own_keep H.bs (own_type H.bs H.blk (by decide)).symm _) (own_type H.bs H.blk (by decide)).symm _, hr, H.rB, H.mx, hl, H.lb⟩, (Fq.set W _ (fun h => h.1 rfl)).trans (Fq.set _ _ (fun h => h.1 rfl))⟩
  rw [heap_set_row (heap_set_row H.blk _)]; rfl
theorem Dm.setB {D : Da} {P : Ph.St} {W : World} (H : Dm D P W) {base : Nat} {o : Option Addr} {k : Nat} {l : List Int} (ho : W.ownsRow base 48 1 (.slice o l.length k) l.length (lis l)) (hr : ∀ x ∈ l, -2147483648 ≤ x ∧ x ≤ 2147483647) (hl : l.length ≤ maxLen) :
    Dm { D with aB := o, cB := k } { P with B := l } ((W.setCell ⟨D.qb, 4, none⟩ (.int .i64 (l.length : Int))).setCell ⟨D.qb, 5, none⟩ (.slice o l.length k)) ∧ Fd D W ((W.setCell ⟨D.qb, 4, none⟩ (.int .i64 (l.length : Int))).setCell ⟨D.qb, 5, none⟩ (.slice o l.length k)) := by
  have hq := own_type ho H.blk (by decide)
  refine ⟨⟨?_, own_keep (own_keep H.vs (fun e => H.apart e.symm) _) (fun e => H.apart e.symm) _, own_keep (own_keep H.ts (own_type H.ts H.blk (by decide)).symm _) (own_type H.ts H.blk (by decide)).symm _, own_base (own_keep (own_keep ho hq.symm _) hq.symm _) (Nat.zero_le _), H.rT, hr, H.mx, H.lt, hl⟩, (Fq.set W _ (fun h => h.1 rfl)).trans (Fq.set _ _ (fun h => h.1 rfl))⟩
  rw [heap_set_row (heap_set_row H.blk _)]; rfl
end Go.Proofs.Ytkodfojccodoaaa
