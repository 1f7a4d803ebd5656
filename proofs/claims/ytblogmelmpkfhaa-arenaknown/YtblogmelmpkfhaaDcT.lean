/- The document's arena: a clause turned. -/
import Derived.Test.YtblogmelmpkfhaaDcM
import Derived.Test.YtblogmelmpkfhaaMrk
namespace Go.Proofs.Ytblogmelmpkfhaa
open Go.RowKit Go.Maps
set_option linter.unusedVariables false

def set8 (W : World) (g k : Nat) (v0 v1 v2 v3 v4 v5 v6 v7 : Value) : World :=
  (((((((W.setCell ⟨g, k, none⟩ v0).setCell ⟨g, k + 1, none⟩ v1).setCell ⟨g, k + 2, none⟩ v2).setCell ⟨g, k + 3, none⟩ v3).setCell ⟨g, k + 4, none⟩ v4).setCell ⟨g, k + 5, none⟩ v5).setCell ⟨g, k + 6, none⟩ v6).setCell ⟨g, k + 7, none⟩ v7
def put8 (l : List Value) (k : Nat) (v0 v1 v2 v3 v4 v5 v6 v7 : Value) : List Value :=
  (((((((l.set k v0).set (k + 1) v1).set (k + 2) v2).set (k + 3) v3).set (k + 4) v4).set (k + 5) v5).set (k + 6) v6).set (k + 7) v7
theorem own_set8 {W : World} {base e size g n c k : Nat} {xs : List Value} (h : W.ownsRow base e size (.slice (some ⟨g, 0, none⟩) n c) n xs) (v0 v1 v2 v3 v4 v5 v6 v7 : Value) :
    (set8 W g k v0 v1 v2 v3 v4 v5 v6 v7).ownsRow base e size (.slice (some ⟨g, 0, none⟩) n c) n (put8 xs k v0 v1 v2 v3 v4 v5 v6 v7) ∧ W.grownBy (set8 W g k v0 v1 v2 v3 v4 v5 v6 v7) (some g) := by
  have tr : ∀ {A B C : World}, A.grownBy B (some g) → B.grownBy C (some g) → A.grownBy C (some g) := fun h1 h2 =>
    ⟨h2.os.trans h1.os, h2.tape.trans h1.tape, h2.output.trans h1.output, Nat.le_trans h1.size h2.size, fun q hq hn => (h2.block q (Nat.lt_of_lt_of_le hq h1.size) hn).trans (h1.block q hq hn)⟩
  have h0 := h.stored k v0
  have h1 := h0.1.stored (k + 1) v1
  have h2 := h1.1.stored (k + 2) v2
  have h3 := h2.1.stored (k + 3) v3
  have h4 := h3.1.stored (k + 4) v4
  have h5 := h4.1.stored (k + 5) v5
  have h6 := h5.1.stored (k + 6) v6
  have h7 := h6.1.stored (k + 7) v7
  exact ⟨h7.1, tr h0.2 (tr h1.2 (tr h2.2 (tr h3.2 (tr h4.2 (tr h5.2 (tr h6.2 h7.2))))))⟩
theorem put8_mid (A B : List Value) (u0 u1 u2 u3 u4 u5 u6 u7 v0 v1 v2 v3 v4 v5 v6 v7 : Value) (k : Nat) (hk : A.length = k) : put8 (A ++ ([u0, u1, u2, u3, u4, u5, u6, u7] ++ B)) k v0 v1 v2 v3 v4 v5 v6 v7 = A ++ ([v0, v1, v2, v3, v4, v5, v6, v7] ++ B) := by
  subst hk
  unfold put8
  simp only [List.set_append_right _ _ (Nat.le_add_right A.length _), List.set_append_right _ _ (Nat.le_refl A.length)]
  simp
theorem items_set (E : List En) (i : Nat) (e : En) : items (E.set i e) = (items E).set i e.1 := by unfold items; rw [List.map_set]
theorem irow_set {E : List En} {i : Nat} {e e' : En} (h : E[i]? = some e) (hr : e'.1.room = e.1.room) :
    ∃ p : Int, p = (Arn.size ((items E).take i) : Nat) ∧ put8 (irow E 0) (i * 8) (.int .i64 p) (.int .i64 (e'.1.room : Nat)) (.int .i64 e'.1.id) (.slice e'.2.1 e'.1.lits.length e'.2.2) (.bool e'.1.red) (.int .i64 e'.1.lbd) (.int .i64 e'.1.used) (.bool e'.1.dead) = irow (E.set i e') 0 := by
  refine ⟨_, rfl, ?_⟩
  have hi := (List.getElem?_eq_some_iff.1 h).1
  obtain ⟨h1, h2⟩ := irow_split 0 h
  have h' : (E.set i e')[i]? = some e' := by rw [List.getElem?_set_self hi]
  obtain ⟨h3, h4⟩ := irow_split 0 h'
  have ht : (E.set i e').take i = E.take i := by rw [List.take_set_of_le (Nat.le_refl _)]
  have hd : (E.set i e').drop (i + 1) = E.drop (i + 1) := by rw [List.drop_set_of_lt (by omega)]
  have hs : (items (E.set i e')).take i = (items E).take i := by rw [items_set, List.take_set_of_le (Nat.le_refl _)]
  rw [h3, h1, ht, hd, hs, hr]
  simp only [Int.zero_add]
  unfold icell
  rw [hr]
  exact put8_mid _ _ _ _ _ _ _ _ _ _ _ _ _ _ _ _ _ _ _ h2
/-- A clause turned: the document's arena behind it. -/
theorem Dc.turn {n db lim g c i : Nat} {E : List En} {W : World} {e e' : En} (h : Dc n db lim (.slice (some ⟨g, 0, none⟩) E.length c) E W) (hi : E[i]? = some e) (hr : e'.1.room = e.1.room) (hok : e'.1.ok) (hl : LR W e'.2.1 e'.1.lits) (hcp : e'.1.lits.length ≤ e'.2.2 ∧ e'.2.2 ≤ 9223372036854775807) (p : Int) (hp : p = (Arn.size ((items E).take i) : Nat)) :
    Dc n db lim (.slice (some ⟨g, 0, none⟩) E.length c) (E.set i e') (set8 W g (i * 8) (.int .i64 p) (.int .i64 (e'.1.room : Nat)) (.int .i64 e'.1.id) (.slice e'.2.1 e'.1.lits.length e'.2.2) (.bool e'.1.red) (.int .i64 e'.1.lbd) (.int .i64 e'.1.used) (.bool e'.1.dead)) ∧
    Fr pD n W (set8 W g (i * 8) (.int .i64 p) (.int .i64 (e'.1.room : Nat)) (.int .i64 e'.1.id) (.slice e'.2.1 e'.1.lits.length e'.2.2) (.bool e'.1.red) (.int .i64 e'.1.lbd) (.int .i64 e'.1.used) (.bool e'.1.dead)) := by
  obtain ⟨p', hp', hrow⟩ := irow_set (e' := e') hi hr
  obtain rfl : p = p' := hp.trans hp'.symm
  have hown := own_set8 (k := i * 8) h.own (.int .i64 p) (.int .i64 (e'.1.room : Nat)) (.int .i64 e'.1.id) (.slice e'.2.1 e'.1.lits.length e'.2.2) (.bool e'.1.red) (.int .i64 e'.1.lbd) (.int .i64 e'.1.used) (.bool e'.1.dead)
  rw [hrow] at hown
  obtain ⟨ho, hg⟩ := hown
  generalize set8 W g (i * 8) (.int .i64 p) (.int .i64 (e'.1.room : Nat)) (.int .i64 e'.1.id) (.slice e'.2.1 e'.1.lits.length e'.2.2) (.bool e'.1.red) (.int .i64 e'.1.lbd) (.int .i64 e'.1.used) (.bool e'.1.dead) = W' at *
  obtain ⟨hgn, cur, hgc⟩ := own_blk (g := g) h.own rfl
  have hne : db ≠ g := by rintro rfl; have := h.blk; rw [hgc] at this; injection this with e; injection e with _ e; cases e
  have hF : Fr (fun o => ∃ cs fr, o = .cells cs 92 fr) n W W' := Fr.grown hg (fun q hq => by cases hq; exact ⟨hgn, fun o ho => by rw [hgc] at ho; cases ho; exact ⟨_, _, rfl⟩⟩)
  have hsz : Arn.size (items (E.set i e')) = Arn.size (items E) := by
    have hit := items_at hi
    have h2 := (Arn.at_take h.ok hit)
    rw [items_set, ← h2.2 e'.1]
    exact Arn.size_upd h.ok h2.1 hr
  refine ⟨⟨h.ndb, ?_, by rw [List.length_set]; exact ho, ?_, ?_, by rw [hsz]; exact h.fit, h.lim, fun f hf => (List.mem_or_eq_of_mem_set hf).elim (h.caps f) (fun e => e ▸ hcp)⟩, ⟨hF.os, hF.tape, hF.output, hF.size, fun q o hq hp => hF.block q o hq (hp.imp id (fun hp2 hx => hp2 (by obtain ⟨cs, fr, rfl⟩ := hx; exact .inr rfl)))⟩⟩
  · rw [hsz]
    exact (hg.block db (lt_of_blk h.blk) (fun e => hne (by cases e; rfl))).trans h.blk
  · intro f hf
    rcases List.mem_or_eq_of_mem_set hf with hf | rfl
    · exact (h.lits f hf).fr hF (fun cs fr => by rintro ⟨_, _, e⟩; cases e)
    · exact hl.fr hF (fun cs fr => by rintro ⟨_, _, e⟩; cases e)
  · rw [items_set]
    intro y hy
    rcases List.mem_or_eq_of_mem_set hy with hy | rfl
    · exact h.ok y hy
    · exact hok
end Go.Proofs.Ytblogmelmpkfhaa
