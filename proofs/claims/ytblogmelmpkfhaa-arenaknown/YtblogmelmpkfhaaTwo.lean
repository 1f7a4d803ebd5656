/- Both arenas side by side. -/
import Derived.Test.YtblogmelmpkfhaaDcD
import Derived.Test.YtblogmelmpkfhaaDcQ
import Derived.Test.YtblogmelmpkfhaaDcR
import Derived.Test.YtblogmelmpkfhaaDcS
import Derived.Test.YtblogmelmpkfhaaTel
import Derived.Test.YtblogmelmpkfhaaMrk
import Derived.Test.YtblogmelmpkfhaaShrW
import Derived.Test.YtblogmelmpkfhaaSwp
import Derived.Test.YtblogmelmpkfhaaFew
namespace Go.Proofs.Ytblogmelmpkfhaa
open Go.RowKit Go.Maps
set_option linter.unusedVariables false
set_option maxRecDepth 100000

theorem pA_pD : ∀ o, pA o → ¬ pD o := by
  intro o h1 h2
  cases o with
  | cells cs t fr =>
    have h1' : t = 69 ∨ t = 84 := h1
    have h2' : t = 72 ∨ t = 92 := h2
    rcases h1' with rfl | rfl <;> rcases h2' with h | h <;> cases h
  | _ => exact h2.elim
theorem pD_pA : ∀ o, pD o → ¬ pA o := fun o h1 h2 => pA_pD o h2 h1
theorem Dcx.kept {n db lim m : Nat} {M : List Arn.It} {W W' : World} (h : Dcx n db lim M W) (hf : Fr pA m W W') : Dcx n db lim M W' := by
  obtain ⟨v, E, h, e⟩ := h
  exact ⟨v, E, h.kept hf (by rintro cs fr (h | h) <;> cases h) (by rintro cs fr (h | h) <;> cases h) (by rintro cs fr (h | h) <;> cases h), e⟩
/-- Both arenas hold M; nothing below N is turned. -/
structure Pr (N ab db lim : Nat) (M : List Arn.It) (W0 W : World) : Prop where
  a : Arx N ab lim M W
  d : Dcx N db lim M W
  b : Below N W0 W
theorem Pr.below {N ab db lim : Nat} {M : List Arn.It} {W0 W W' : World} (h : Pr N ab db lim M W0 W) (hN : N ≤ W0.heap.size) (hb : Below W.heap.size W W') : Pr N ab db lim M W0 W' :=
  ⟨h.a.below hb, h.d.below hb, h.b.trans (hb.mono (Nat.le_trans hN h.b.size))⟩
theorem Pr.two {N ab db lim : Nat} {M M' : List Arn.It} {W0 W W1 W2 : World} (h : Pr N ab db lim M W0 W) (hN : N ≤ W0.heap.size) (h1 : Did N ab lim W M' W1) (h2 : DidD N db lim W1 M' W2) : Pr N ab db lim M' W0 W2 :=
  ⟨h1.1.kept h2.2 pD_pA, h2.1, (h.b.trans (h1.2.below (Nat.le_trans hN h.b.size))).trans (h2.2.below (Nat.le_trans hN (Nat.le_trans h.b.size h1.2.size)))⟩
theorem Fr.box32 {p : Obj → Prop} {n : Nat} {W W' : World} {g : Nat} {cs : Array Value} (hf : Fr p n W W') (hp : ¬ p (.cells cs 32 (0, 0))) (h : W.heap[g]? = some (.cells cs 32 (0, 0))) : W'.heap[g]? = some (.cells cs 32 (0, 0)) := hf.block g _ h (.inr hp)
theorem noA32 {cs : Array Value} : ¬ pA (.cells cs 32 (0, 0)) := by rintro (h | h) <;> cases h
theorem noD32 {cs : Array Value} : ¬ pD (.cells cs 32 (0, 0)) := by rintro (h | h) <;> cases h
/-- What one leaves. -/
def OneOut (N ab db lim : Nat) (W0 : World) (e : Ending) (w' : World) : Prop := e = .returned (.bool true) ∧ ∃ M', Pr N ab db lim M' W0 w'
/-- Between the call of the one and the call of the other. -/
def SO (N ab db lim : Nat) (M M' : List Arn.It) (W0 : World) (sb : Nat) (cs : Array Value) (k : Nat) (Y : World) : Prop :=
  Arx N ab lim (if k = 0 then M else M') Y ∧ Dcx N db lim (if k = 2 then M' else M) Y ∧ Below N W0 Y ∧ Y.heap[sb]? = some (.cells cs 32 (0, 0))
theorem SO.one {N ab db lim : Nat} {M M' : List Arn.It} {W0 Y w' : World} {sb : Nat} {cs : Array Value} (h : SO N ab db lim M M' W0 sb cs 0 Y) (hN : N ≤ W0.heap.size) (hd : Did N ab lim Y M' w') : SO N ab db lim M M' W0 sb cs 1 w' :=
  ⟨hd.1, Dcx.kept h.2.1 hd.2, h.2.2.1.trans (hd.2.below (Nat.le_trans hN h.2.2.1.size)), Fr.box32 hd.2 noA32 h.2.2.2⟩
theorem SO.two {N ab db lim : Nat} {M M' : List Arn.It} {W0 Y w' : World} {sb : Nat} {cs : Array Value} (h : SO N ab db lim M M' W0 sb cs 1 Y) (hN : N ≤ W0.heap.size) (hd : DidD N db lim Y M' w') : SO N ab db lim M M' W0 sb cs 2 w' :=
  ⟨Arx.kept h.1 hd.2 pD_pA, hd.1, h.2.2.1.trans (hd.2.below (Nat.le_trans hN h.2.2.1.size)), Fr.box32 hd.2 noD32 h.2.2.2⟩
theorem SO.pr {N ab db lim : Nat} {M M' : List Arn.It} {W0 Y : World} {sb : Nat} {cs : Array Value} (h : SO N ab db lim M M' W0 sb cs 2 Y) : Pr N ab db lim M' W0 Y := ⟨h.1, h.2.1, h.2.2.1⟩
theorem SO.mk {N ab db lim : Nat} {M M' : List Arn.It} {W0 Y : World} {sb : Nat} {cs : Array Value} (h : Pr N ab db lim M W0 Y) (hN : N ≤ W0.heap.size) (hb : Y.heap[sb]? = some (.cells cs 32 (0, 0))) : SO N ab db lim M M' W0 sb cs 0 Y.drew := ⟨h.a.below ((Below.refl Y.heap.size Y).drew), h.d.below ((Below.refl Y.heap.size Y).drew), h.b.trans (((Below.refl Y.heap.size Y).drew).mono (Nat.le_trans hN h.b.size)), hb⟩
set_option maxHeartbeats 2000000 in
theorem pick27w (i : Int) (n : Nat) (w : World) (hn : 0 < n) (hn2 : n ≤ 268435456) (hi : I64 i) :
    Calls Try.prog 27 #[.int .i64 i, .int .i64 n] w fun e w' => PickOut n e ∧ w' = w := by
  have h1 := hi.1
  have h2 := hi.2
  have hn0 : ¬ (n : Int) ≤ 0 := by omega
  have hnz : ((n : Int) == 0) = false := by simp; omega
  have hnz' : ¬ (n : Int) = 0 := by omega
  obtain ⟨r, hr⟩ : ∃ r, i.tmod (n : Int) = r := ⟨_, rfl⟩
  have hr1 : -(n : Int) < r := by have h := Int.natAbs_tmod i (n : Int); rw [hr] at h; have := Nat.mod_lt i.natAbs (show 0 < (n : Int).natAbs by omega); omega
  have hr2 : r < n := by rw [← hr]; exact Int.tmod_lt_of_pos i (by omega)
  obtain ⟨t, ht⟩ : ∃ t : Nat, (r + n).tmod (n : Int) = (t : Int) := ⟨((r + n).tmod (n : Int)).toNat, by have := Int.tmod_nonneg (b := (n : Int)) (show 0 ≤ r + n by omega); omega⟩
  have htn : t < n := by have := Int.tmod_lt_of_pos (r + n) (b := (n : Int)) (by omega); omega
  clear hi
  go_enter Try.func27, Try.ntmps27
  go_wp2
  go_ret
  exact ⟨⟨t, htn, rfl⟩, rfl⟩
/-- Where clauses begin is a number, and there are not many. -/
theorem Arx.refs_ok {n ab lim : Nat} {M : List Arn.It} {W : World} (h : Arx n ab lim M W) : Arn.size M ≤ 268435456 ∧ (∀ x ∈ Arn.refs M 0, I64 x) ∧ (Arn.refs M 0).length ≤ 268435456 := by
  obtain ⟨v, bm, h⟩ := h
  have hs : Arn.size M ≤ 268435456 := Nat.le_trans h.fit h.lim
  have hl := Arn.refs_len M 0
  have hl2 := Arn.len_size h.ok
  refine ⟨hs, ?_, by omega⟩
  have key : ∀ (M : List Arn.It) (o : Int), ∀ x ∈ Arn.refs M o, o ≤ x ∧ x ≤ o + Arn.size M := by
    intro M
    induction M with
    | nil => intro o x hx; simp [Arn.refs] at hx
    | cons y M ih =>
      intro o x hx
      rw [Arn.refs_cons] at hx
      have e : (Arn.size (y :: M) : Int) = y.room + Arn.size M := by simp [Arn.size]
      split at hx
      · have := ih _ x hx; omega
      · rcases List.mem_cons.1 hx with rfl | hx
        · omega
        · have := ih _ x hx; omega
  intro x hx
  have := key M 0 x hx
  exact ⟨by omega, by omega⟩
end Go.Proofs.Ytblogmelmpkfhaa
