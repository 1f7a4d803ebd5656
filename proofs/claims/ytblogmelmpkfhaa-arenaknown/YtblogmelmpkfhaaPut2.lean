/- Put. -/
import Derived.Test.YtblogmelmpkfhaaPut1
namespace Go.Proofs.Ytblogmelmpkfhaa
open Go.RowKit Go.Maps
set_option linter.unusedVariables false

theorem step_append_run {P : Program} {w w' : World} {ops : Array Oper} {o : Oper} {a : Act} {K : Act → World → Prop} {Q : Exit → Act → World → Prop} {E : Prop} (hgd : o.guard = none) (s x : Operand) (t u : TypeId)
    (ho : o.op = .call { callee := .builtin .append, args := #[s, x], argTypes := #[t, u] }) {v xv v' : Value} (hs : a.eval s = v) (hx : a.eval x = xv)
    (hrun : (Builtin.append_ #[t, u] o.type #[v, xv]).run P w = .ok v' w') (h : K (a.put o.dst v') w') :
    if Region.wanted o (yielded ops a.tmps) = true then Oper.wp P o a w K Q else E := by
  have hw : Region.wanted o (yielded ops a.tmps) = true := by simp [Region.wanted, hgd]
  rw [if_pos hw]
  unfold Oper.wp
  simp [execOp, ho, resolve, invoke, builtin, hs, hx, hrun, Result.andThen]
  exact h
/-- What Put leaves. -/
def PutOut (n ab lim : Nat) (W : World) (M : List Arn.It) (id : Int) (c : List Int) (red : Bool) (lbd : Int) (e : Ending) (w' : World) : Prop :=
  e = .returned (.tuple #[.int .i64 (Arn.putR M lim id c lbd), .int .i64 (Arn.putE M lim id c lbd)]) ∧ Did n ab lim W (Arn.put M lim id c red lbd) w'
theorem put_err {n ab lim : Nat} {W w' : World} {M : List Arn.It} {id : Int} {c : List Int} {red : Bool} {lbd : Int} (hA : Arx n ab lim M W) (hb : Below W.heap.size W w') (er : Int) (h0 : er ≠ 0) (he : Arn.putE M lim id c lbd = er) :
    PutOut n ab lim W M id c red lbd (.returned (.tuple #[.int .i64 0, .int .i64 er])) w' := by
  refine ⟨by rw [he, Arn.putR, he, if_neg h0], ?_, Fr.of_below hb⟩
  rw [Arn.put, he, if_neg h0]
  exact hA.below hb

set_option maxRecDepth 100000 in
set_option maxHeartbeats 2000000 in
theorem put13_arg {n ab lim : Nat} {M : List Arn.It} {W : World} (hA : Arx n ab lim M W) (id : Int) (a : Option Addr) (k cap : Nat) (c : List Int) (red : Bool) (lbd : Int) (hbad : id < 1 ∨ 4611686018427387903 < id ∨ Arn.small lbd = false) :
    Calls Try.prog 13 #[.pointer (some ⟨ab, 0, none⟩), .int .i64 id, .slice a k cap, .bool red, .int .i64 lbd] W fun e w' => PutOut n ab lim W M id c red lbd e w' := by
  have he : Arn.putE M lim id c lbd = 2 := by unfold Arn.putE; rw [if_pos hbad]
  have HE := hid (fun (w' : World) (hb : Below W.heap.size W w') => put_err (red := red) hA hb 2 (by decide) he)
  have C := hid (fun w => small38 lbd w)
  generalize Arn.small lbd = b at *
  clear hA he
  by_cases h1 : id < 1
  · clear hbad
    go_enter Try.func13, Try.ntmps13
    go_wp2_with (go_at_call 38; refine (C.out _).mono ?_; rintro e w4 ⟨rfl, hw4⟩; rw [hw4]; clear hw4)
    go_ret2
    exact HE.out _ (Below.refl _ _)
  · by_cases h2 : 4611686018427387903 < id
    · clear hbad
      go_enter Try.func13, Try.ntmps13
      go_wp2_with (go_at_call 38; refine (C.out _).mono ?_; rintro e w4 ⟨rfl, hw4⟩; rw [hw4]; clear hw4)
      go_ret2
      exact HE.out _ (Below.refl _ _)
    · obtain rfl : b = false := by rcases hbad with h | h | h; exact absurd h h1; exact absurd h h2; exact h
      clear hbad
      go_enter Try.func13, Try.ntmps13
      go_wp2_with (go_at_call 38; refine (C.out _).mono ?_; rintro e w4 ⟨rfl, hw4⟩; rw [hw4]; clear hw4)
      go_ret2
      exact HE.out _ (Below.refl _ _)
set_option maxRecDepth 100000 in
set_option maxHeartbeats 2000000 in
theorem put13_lit {n ab lim : Nat} {M : List Arn.It} {W : World} (hA : Arx n ab lim M W) (id : Int) (a : Option Addr) (k cap : Nat) (c : List Int) (red : Bool) (lbd : Int) (hok : ¬ (id < 1 ∨ 4611686018427387903 < id ∨ Arn.small lbd = false))
    (hk : c.length = k) (hK : k ≤ 35184372088832) (hc : Lits W a c) (hz : (0 : Int) ∈ c) :
    Calls Try.prog 13 #[.pointer (some ⟨ab, 0, none⟩), .int .i64 id, .slice a k cap, .bool red, .int .i64 lbd] W fun e w' => PutOut n ab lim W M id c red lbd e w' := by
  have he : Arn.putE M lim id c lbd = 4 := by unfold Arn.putE; rw [if_neg hok, if_pos hz]
  have HE := hid (fun (w' : World) (hb : Below W.heap.size W w') => put_err (red := red) hA hb 4 (by decide) he)
  have C := hid (fun w => small38 lbd w)
  have C2 := hid (contains39 a k cap c W hk hK hc)
  rw [show decide ((0 : Int) ∈ c) = true by simp [hz]] at C2
  have hb : Arn.small lbd = true := by
    cases hs : Arn.small lbd
    · exact absurd (.inr (.inr hs)) hok
    · rfl
  rw [hb] at C
  have h1 : ¬ id < 1 := fun h => hok (.inl h)
  have h2 : ¬ 4611686018427387903 < id := fun h => hok (.inr (.inl h))
  clear hA he hok hb hc hz hk
  go_enter Try.func13, Try.ntmps13
  go_wp2_with (first | (go_at_call 38; refine (C.out _).mono ?_; rintro e w4 ⟨rfl, hw4⟩; rw [hw4]; clear hw4) | (go_at_call 39; refine C2.out.mono ?_; rintro e w4 ⟨rfl, hw4⟩; rw [hw4]; clear hw4))
  go_ret2
  exact HE.out _ (Below.refl _ _)
set_option maxRecDepth 100000 in
set_option maxHeartbeats 2000000 in
theorem put13_full {n ab lim : Nat} {M : List Arn.It} {W : World} (hA : Arx n ab lim M W) (id : Int) (a : Option Addr) (k cap : Nat) (c : List Int) (red : Bool) (lbd : Int) (hok : ¬ (id < 1 ∨ 4611686018427387903 < id ∨ Arn.small lbd = false))
    (hk : c.length = k) (hK : k ≤ 35184372088832) (hc : Lits W a c) (hz : (0 : Int) ∉ c) (hf : lim < Arn.size M + 4 + c.length) :
    Calls Try.prog 13 #[.pointer (some ⟨ab, 0, none⟩), .int .i64 id, .slice a k cap, .bool red, .int .i64 lbd] W fun e w' => PutOut n ab lim W M id c red lbd e w' := by
  have he : Arn.putE M lim id c lbd = 90 := by unfold Arn.putE; rw [if_neg hok, if_neg hz, if_pos hf]
  have HE := hid (fun (w' : World) (hb : Below W.heap.size W w') => put_err (red := red) hA hb 90 (by decide) he)
  have C := hid (fun w => small38 lbd w)
  have C2 := hid (contains39 a k cap c W hk hK hc)
  rw [show decide ((0 : Int) ∈ c) = false by simp [hz]] at C2
  have hb : Arn.small lbd = true := by
    cases hs : Arn.small lbd
    · exact absurd (.inr (.inr hs)) hok
    · rfl
  rw [hb] at C
  have h1 : ¬ id < 1 := fun h => hok (.inl h)
  have h2 : ¬ 4611686018427387903 < id := fun h => hok (.inr (.inl h))
  obtain ⟨v, bm, h⟩ := hA
  obtain ⟨o, cp, rfl⟩ := own_slc h.own
  obtain ⟨c0, c1, _⟩ := h.facts
  have hf' : (lim : Int) - (Arn.size M : Nat) < 4 + k := by omega
  have hlim := h.lim
  have hfit := h.fit
  generalize Arn.size M = N at *
  have hN : N ≤ 268435456 := by omega
  clear h he hok hb hc hz hk hf
  go_enter Try.func13, Try.ntmps13
  go_wp2_with (first | (go_at_call 38; refine (C.out _).mono ?_; rintro e w4 ⟨rfl, hw4⟩; rw [hw4]; clear hw4) | (go_at_call 39; refine C2.out.mono ?_; rintro e w4 ⟨rfl, hw4⟩; rw [hw4]; clear hw4))
  go_region
  go_wp2
  go_ret2
  exact HE.out _ ((Below.refl _ _).drew)
end Go.Proofs.Ytblogmelmpkfhaa
