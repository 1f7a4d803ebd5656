/- Empty: the least id of an empty clause. -/
import Derived.Test.YthpebfojkpnojaaAdd
import Derived.Maps.RangeWalk
namespace Bas
def emptyOf (L : List E) : Int := match L.find? (fun e => e.lits.isEmpty) with
  | none => 0
  | some e => e.id
theorem empty_unique {L : List E} (hs : L.Pairwise (fun d e => d.id < e.id)) {x : Int} (h1 : x = 0 ∨ ∃ e, look L x = some e ∧ e.lits = []) (h2 : ∀ e ∈ L, e.lits = [] → x ≠ 0 ∧ x ≤ e.id) : emptyOf L = x := by
  unfold emptyOf
  cases hf : L.find? (fun e => e.lits.isEmpty) with
  | none =>
    rcases h1 with h | ⟨e, he, hl⟩
    · exact h.symm
    · have := List.find?_eq_none.1 hf e (look_mem he).1
      rw [hl] at this
      exact absurd rfl this
  | some e0 =>
    obtain ⟨hp, as1, bs, rfl, hna⟩ := List.find?_eq_some_iff_append.1 hf
    have hl0 : e0.lits = [] := by simpa using hp
    obtain ⟨hx0, hx1⟩ := h2 e0 (by simp) hl0
    rcases h1 with h | ⟨e, he, hl⟩
    · exact absurd h hx0
    · obtain ⟨hm, hid⟩ := look_mem he
      rcases List.mem_append.1 hm with h | h
      · have := hna e h
        rw [hl] at this
        exact absurd this (by simp)
      · rcases List.mem_cons.1 h with rfl | h
        · exact hid
        · have := (List.pairwise_cons.1 (List.pairwise_append.1 hs).2.1).1 e h
          show e0.id = x
          omega
end Bas
namespace Go.Proofs.Ythpebfojkpnojaa
open Go.RowKit Go.Maps
set_option linter.unusedVariables false
set_option linter.unusedSimpArgs false
set_option maxRecDepth 100000
/-- The least so far, of those that are no longer to come. -/
structure EmpI (L : List Bas.E) (left : Lit → Bool) (x : Int) : Prop where
  is : x = 0 ∨ ∃ e, Bas.look L x = some e ∧ e.lits = []
  least : ∀ id e, I64 id → Bas.look L id = some e → e.lits = [] → left (.int .i64 id) = false → x ≠ 0 ∧ x ≤ id
theorem EmpI.step {L : List Bas.E} {left : Lit → Bool} {x id : Int} {e : Bas.E} (h : EmpI L left x) (he : Bas.look L id = some e) (hp : 1 ≤ id) (y : Int) (hy : y = if e.lits = [] ∧ (x = 0 ∨ id < x) then id else x) : EmpI L (fun z => left z && !z.sameKey (.int .i64 id)) y := by
  subst hy
  refine ⟨?_, fun i d hi hd hl hlf => ?_⟩
  · split
    · rename_i hc; exact .inr ⟨e, he, hc.1⟩
    · exact h.is
  · have hk : left (.int .i64 i) = false ∨ i = id := by
      simp only [Bool.and_eq_false_iff, Bool.not_eq_false', Lit.sameKey, decide_eq_true_eq] at hlf
      rcases hlf with h1 | h1
      · exact .inl h1
      · exact .inr h1.2
    rcases hk with h1 | rfl
    · obtain ⟨a, b⟩ := h.least i d hi hd hl h1
      split
      · rename_i hc
        refine ⟨by omega, ?_⟩
        rcases hc.2 with h2 | h2
        · exact absurd h2 a
        · omega
      · exact ⟨a, b⟩
    · rw [he] at hd
      obtain rfl : e = d := by simpa using hd
      split
      · exact ⟨by omega, Int.le_refl _⟩
      · rename_i hc
        have : ¬ (x = 0 ∨ i < x) := fun h2 => hc ⟨hl, h2⟩
        omega
theorem below_grown' {n : Nat} {A W W' : World} {row : Option Nat} (hb : Below n A W) (hg : W.grownBy W' row) (hr : ∀ k, row = some k → n ≤ k) (hn : n ≤ W.heap.size) : Below n A W' := below_grown hb hg hr hn
def EmpOut (x : Int) (W : World) (en : Ending) (w' : World) : Prop := en = .returned (.tuple #[.int .i64 x, .bool (x != 0)]) ∧ Below W.heap.size W w'
set_option maxHeartbeats 8000000 in
theorem empty7 {M : Nat → Prop} {bb K : Nat} {s : Bas.S} {W : World} (h : Bs M bb K s W) (hg : Bas.Good s) (hL : s.last ≤ 1000000000) :
    Calls Try.prog 7 #[.pointer (some ⟨bb, 0, none⟩)] W fun en w' => EmpOut (Bas.emptyOf s.live) W en w' := by
  have h' := h
  obtain ⟨hv, bm, br, k, k2, f, g, rv, sv, tv, R, Z, rw', ids, iv, hb, m1, m2, m3, hne, ⟨⟨D, a0, a1⟩, a2, a3⟩, _⟩ := h'
  have x3 : W.cell? ⟨bb, 3, none⟩ = some (.map (some bm)) := row_cell hb 3
  have HA := hid (fun (id : Int) (hi : I64 id) => a3 id hi)
  have HD := hid (fun (id : Int) (hi : I64 id) => a1 id hi)
  have HFIN := hid (fun (left : Lit → Bool) (x : Int) (hI : EmpI s.live left x) (hl : ∀ kl, left kl = false) => show Bas.emptyOf s.live = x from Bas.empty_unique hg.sorted hI.is (fun e he hle => hI.least e.id e ⟨by have := (hg.ids e he).1; omega, by have := (hg.ids e he).2; omega⟩ (Bas.look_of_mem hg.sorted he) hle (hl _)))
  have HST := hid (show EmpI s.live (Maps.has D) 0 from ⟨.inl rfl, fun id e hi he hl hh => by
    exfalso
    rw [(a1 id hi).1] at hh
    have := a3 id hi
    rw [he] at this
    obtain ⟨_, _, hf, _⟩ := this
    rw [hf] at hh
    cases hh⟩)
  have HP := hid (fun (id : Int) (e : Bas.E) (he : Bas.look s.live id = some e) => show 1 ≤ id ∧ e.id = id from by
    obtain ⟨h1, h2⟩ := Bas.look_mem he
    exact ⟨h2 ▸ (hg.ids e h1).1, h2⟩)
  clear h hb a1 a3 hg
  go_enter Try.func7, Try.ntmps7
  go_wp2_with (at_range; refine wpList_range_own _ rfl _ 75 rfl 2 32 klawMp Try.underlying75 _ bm k D rfl a0 ?_; intro w0 hrg0 hg0 hs0)
  go_frame
  have HB0 := hid (show Below W.heap.size W w0 from below_grown' (Below.refl _ _) hg0 (fun j hj => by cases hj) (Nat.le_refl _))
  clear hg0
  go_loopw [4] (fun lv wr => ∃ (left : Lit → Bool) (cnt : Nat) (x : Int), wr.ranges Try.prog 2 raw bm W.heap.size k D left cnt ∧ lv = .int .i64 x ∧ Hid (EmpI s.live left x) ∧ Hid (Below W.heap.size W wr)) (fun _ wr => wr.rangeLeft bm W.heap.size)
  case atStart => exact ⟨_, _, 0, hrg0, rfl, HST, HB0⟩
  case round =>
    obtain ⟨left, cnt, x, hrg, rfl, HI, HB⟩ := hrel
    go_wp2_with (at_next; refine wpList_next_ranges _ rfl _ rfl 2 klawMp raw (fun x : Int => Value.int .i64 x) (fun v : Value => v) (fun key kl hk => by obtain ⟨x, e, _⟩ := Maps.keyOf_int_inv Try.underlying2 hk; exact ⟨x, e⟩) (fun v y _ => ⟨v, rfl⟩) bm W.heap.size k D left cnt rfl hrg ?_ ?_)
    · intro hc0 hl0
      have HE := hid (HFIN.out left x HI.out hl0)
      clear hl0 hrg
      go_wp2
      go_ret2
      exact ⟨by rw [HE.out]; rfl, HB.out⟩
    · intro id v kl y ps w1 cnt1 hkey hlk hR hat hrg1 hlt hg1 hs1 hen
      obtain ⟨id', e1, e2, hwf⟩ := Maps.keyOf_int_inv Try.underlying2 hkey
      injection e1 with _ e1
      subst e1 e2
      have hI : I64 id := by
        unfold Lit.wf at hwf
        simp only [Bool.and_eq_true, decide_eq_true_eq] at hwf
        exact ⟨hwf.1, hwf.2⟩
      simp only [raw, Option.some.injEq, Prod.mk.injEq] at hR
      obtain ⟨rfl, _⟩ := hR
      obtain ⟨d1, d2⟩ := HD.out id hI
      have d3 := HA.out id hI
      rw [has_true_of_atKey hat] at d1
      obtain ⟨e, he, a, c, hfe⟩ : ∃ e, Bas.look s.live id = some e ∧ ∃ a c, f id = some (entV e a c) := by
        cases hk : Bas.look s.live id with
        | none =>
          rw [hk] at d3
          simp only [EntAt] at d3
          rw [d3] at d1
          cases d1
        | some e =>
          rw [hk] at d3
          obtain ⟨a, c, h1, _⟩ := d3
          exact ⟨e, rfl, a, c, h1⟩
      rw [hat, hfe] at d2
      simp only [Option.getD_some, DataW.held.injEq] at d2
      subst d2
      obtain ⟨hp, hid1⟩ := HP.out id e he
      have HSTP := hid (fun y hy => HI.out.step he hp y hy)
      have HRG := hid (fun o => hrg1.alloc o)
      have HBN := hid (fun o => show Below W.heap.size W (w1.alloc o) from (below_grown' HB.out hg1 (fun j hj => by cases hj; exact Nat.le_refl _) HB.out.size).trans ((below_box w1 o).mono (by have := HB.out.size; omega)))
      have HLT := hid hlt
      have hlq := hrg.left_eq
      have HLQ := hid hlq
      simp only [entV] at hen
      obtain ⟨el, hel⟩ : ∃ el, e.lits.length = el := ⟨_, rfl⟩
      have HNIL := hid (show e.lits = [] ↔ el = 0 from by rw [← hel]; exact List.length_eq_zero_iff.symm)
      rw [hel] at hen
      clear hrg1 hg1 hat d1 d3 hfe he hlq hel hlt hrg hkey hlk
      have key : (el ≠ 0 ∨ (el = 0 ∧ x = 0) ∨ (el = 0 ∧ x ≠ 0 ∧ id < x) ∨ (el = 0 ∧ x ≠ 0 ∧ ¬ id < x)) := by omega
      rcases key with h1 | ⟨rfl, rfl⟩ | ⟨rfl, h2, h3⟩ | ⟨rfl, h2, h3⟩
      · have b1 : (((el : Nat) : Int) == 0) = false := by simp [h1]
        have HS2 := hid (HSTP.out x (by rw [if_neg (fun h => h1 (HNIL.out.1 h.1))]))
        clear h1
        go_wp2
        exact ⟨⟨_, _, _, HRG.out _, rfl, HS2, hid (HBN.out _)⟩, by rw [(HRG.out _).left_eq, HLQ.out]; exact HLT.out⟩
      · have HS2 := hid (HSTP.out id (by rw [if_pos ⟨HNIL.out.2 rfl, .inl rfl⟩]))
        go_wp2
        exact ⟨⟨_, _, _, HRG.out _, rfl, HS2, hid (HBN.out _)⟩, by rw [(HRG.out _).left_eq, HLQ.out]; exact HLT.out⟩
      · have b2 : (x == 0) = false := by simp [h2]
        have HS2 := hid (HSTP.out id (by rw [if_pos ⟨HNIL.out.2 rfl, .inr h3⟩]))
        go_wp2
        exact ⟨⟨_, _, _, HRG.out _, rfl, HS2, hid (HBN.out _)⟩, by rw [(HRG.out _).left_eq, HLQ.out]; exact HLT.out⟩
      · have b2 : (x == 0) = false := by simp [h2]
        have HS2 := hid (HSTP.out x (by rw [if_neg (fun h => by rcases h.2 with h | h; exact h2 h; exact h3 h)]))
        go_wp2
        exact ⟨⟨_, _, _, HRG.out _, rfl, HS2, hid (HBN.out _)⟩, by rw [(HRG.out _).left_eq, HLQ.out]; exact HLT.out⟩
end Go.Proofs.Ythpebfojkpnojaa
