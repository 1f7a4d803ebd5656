/- The document's trail in memory. -/
import Derived.Test.YtckpahdlcdgbpaaPu
namespace Trl
/-- The place of a variable, as a number; -1: none. -/
def idxI (R : List E) (v : Int) : Int := (idx R v).elim (-1) (fun i => (i : Int))
/-- Why a literal may not come on, by the document. -/
def mayE (n : Nat) (R : List E) (l : Int) : Int := if l = 0 ∨ (n : Int) < vr l then 4 else if 0 ≤ idxI R (vr l) then 100 else 0
theorem idxI_none {R : List E} {v : Int} : idxI R v < 0 ↔ idx R v = none := by
  unfold idxI
  cases idx R v with
  | none => simp
  | some i => simp
theorem idxI_some {R : List E} {v : Int} : 0 ≤ idxI R v ↔ (idx R v).isSome = true := by
  unfold idxI
  cases idx R v with
  | none => simp
  | some i => simp
theorem may_wrong {n : Nat} {R : List E} {l : Int} : mayE n R l = wrongE n R l (-1) := by
  unfold mayE wrongE
  have h1 : (l = 0 ∨ (n : Int) < vr l) ↔ (vr l < 1 ∨ (n : Int) < vr l) := by unfold vr; split <;> omega
  have h2 : ¬ ((-1 : Int) < -1) := by decide
  by_cases h : l = 0 ∨ (n : Int) < vr l
  · rw [if_pos h, if_pos (h1.1 h)]
  · rw [if_neg h, if_neg (fun k => h (h1.2 k))]
    simp only [h2, if_false, idxI_some]
end Trl
namespace Go.Proofs.Ytckpahdlcdgbpaa
open Go.RowKit Go.Maps
set_option linter.unusedVariables false
set_option maxRecDepth 100000

def ecell (e : Trl.E) : List Value := [.int .i32 e.lit, .int .i64 (e.lev : Nat), .int .i64 e.rea]
def erow : List Trl.E → List Value
  | [] => []
  | e :: R => ecell e ++ erow R
theorem erow_append (A B : List Trl.E) : erow (A ++ B) = erow A ++ erow B := by
  induction A with
  | nil => rfl
  | cons e A ih => simp only [List.cons_append, erow, ih, List.append_assoc]
theorem erow_len (R : List Trl.E) : (erow R).length = R.length * 3 := by
  induction R with
  | nil => rfl
  | cons e R ih => simp only [erow, List.length_append, ih, List.length_cons]; simp [ecell]; omega
theorem erow_at : ∀ (R : List Trl.E) (i t : Nat) (u : Value), i < R.length → (ecell (Trl.get R i))[t]? = some u → (erow R)[i * 3 + t]? = some u
  | [], i, t, u, h, _ => by cases h
  | e :: R, 0, t, u, _, ht => by
    have h3 : t < (ecell e).length := by
      rcases Nat.lt_or_ge t (ecell e).length with h' | h'
      · exact h'
      · rw [show Trl.get (e :: R) 0 = e from rfl, List.getElem?_eq_none h'] at ht; cases ht
    rw [show 0 * 3 + t = t by omega, erow, List.getElem?_append_left h3]
    exact ht
  | e :: R, i + 1, t, u, h, ht => by
    rw [erow, List.getElem?_append_right (by simp [ecell]; omega), show (i + 1) * 3 + t - (ecell e).length = i * 3 + t by simp [ecell]; omega]
    exact erow_at R i t u (by simpa using h) ht
/-- The document's trail. -/
structure Dt (B db : Nat) (v : Value) (n : Nat) (s : Trl.S) (W : World) : Prop where
  ndb : B ≤ db
  blk : W.heap[db]? = some (.cells #[.int .i64 (n : Nat), v, .int .i64 (s.B.length : Nat), .int .i64 (s.h : Nat)] 66 (0, 0))
  own : W.ownsRow B 84 3 v s.R.length (erow s.R)
  ok : Trl.Ok n s
def Dtx (B db n : Nat) (s : Trl.S) (W : World) : Prop := ∃ v, Dt B db v n s W
theorem Dt.kept {p : Obj → Prop} {Q : Nat → Prop} {B db : Nat} {v : Value} {n : Nat} {s : Trl.S} {W W' : World} (h : Dt B db v n s W) (hf : Fr p Q W W') (hp : ∀ o, p o → ¬ pD o) : Dt B db v n s W' :=
  ⟨h.ndb, hf.block _ _ h.blk (.inr (fun k => hp _ k (.inl rfl))), own_fr h.own hf (fun cs fr k => hp _ k (.inr rfl)), h.ok⟩
theorem Dt.below {B db : Nat} {v : Value} {n : Nat} {s : Trl.S} {W W' : World} (h : Dt B db v n s W) (hb : Below W.heap.size W W') : Dt B db v n s W' :=
  h.kept (p := fun _ => False) (Q := fun _ => False) (Fr.of_below hb) (fun _ k => k.elim)
theorem Dtx.below {B db n : Nat} {s : Trl.S} {W W' : World} (h : Dtx B db n s W) (hb : Below W.heap.size W W') : Dtx B db n s W' := by
  obtain ⟨v, h⟩ := h; exact ⟨v, h.below hb⟩
theorem Dtx.kept {p : Obj → Prop} {Q : Nat → Prop} {B db n : Nat} {s : Trl.S} {W W' : World} (h : Dtx B db n s W) (hf : Fr p Q W W') (hp : ∀ o, p o → ¬ pD o) : Dtx B db n s W' := by
  obtain ⟨v, h⟩ := h; exact ⟨v, h.kept hf hp⟩
def DidD (B db n : Nat) (W : World) (s' : Trl.S) (w' : World) : Prop := Dtx B db n s' w' ∧ Fr pD (· < B) W w'
theorem DidD.below {B db n : Nat} {s : Trl.S} {W W' : World} (h : Dtx B db n s W) (hb : Below W.heap.size W W') : DidD B db n W s W' := ⟨h.below hb, Fr.of_below hb⟩
theorem Dt.cell {B db g c : Nat} {n : Nat} {s : Trl.S} {W : World} (h : Dt B db (.slice (some ⟨g, 0, none⟩) s.R.length c) n s W) {i t : Nat} {u : Value} (hi : i < s.R.length) (ht : (ecell (Trl.get s.R i))[t]? = some u) : W.cell? ⟨g, i * 3 + t, none⟩ = some u := by
  have h3 : t < 3 := by
    rcases Nat.lt_or_ge t 3 with h' | h'
    · exact h'
    · rw [List.getElem?_eq_none (by simpa [ecell] using h')] at ht; cases ht
  rw [h.own.cellAt _ (by omega)]
  exact erow_at s.R i t u hi ht
theorem Dt.shape {B db : Nat} {v : Value} {n : Nat} {s : Trl.S} {W : World} (h : Dt B db v n s W) : ∃ o c, v = .slice o s.R.length c ∧ (s.R.length = 0 ∨ ∃ g, o = some ⟨g, 0, none⟩) := by
  obtain ⟨o, c, rfl⟩ := own_slc h.own
  refine ⟨o, c, rfl, ?_⟩
  rcases Nat.eq_zero_or_pos s.R.length with h0 | h0
  · exact .inl h0
  · obtain ⟨g, _, e5, _, _⟩ := h.own.form h0
    cases e5
    exact .inr ⟨g, rfl⟩
theorem i32_get {n : Nat} {s : Trl.S} (h : Trl.Ok n s) {i : Nat} (hi : i < s.R.length) : I32 (Trl.get s.R i).lit := by
  have h1 := h.lits _ (Trl.get_mem hi)
  have h2 := h.n
  unfold Trl.vr at h1
  unfold I32
  split at h1 <;> omega
set_option maxHeartbeats 2000000 in
theorem find54 {B db n : Nat} {s : Trl.S} {W : World} (H : Dtx B db n s W) (v : Int) :
    Calls Try.prog 54 #[.pointer (some ⟨db, 0, none⟩), .int .i64 v] W fun e w' => e = .returned (.int .i64 (Trl.idxI s.R v)) ∧ w' = W := by
  obtain ⟨rv, h⟩ := H
  obtain ⟨o, c, rfl, hsh⟩ := h.shape
  have c1 := row_cell h.blk 1
  have hlen := h.ok.len
  have hn := h.ok.n
  have HD := hid h
  rcases hsh with h0 | ⟨g, rfl⟩
  · have HE := hid (show Trl.idxI s.R v = -1 by rw [List.eq_nil_of_length_eq_zero h0]; rfl)
    rw [h0] at c1
    clear h
    go_enter Try.func54, Try.ntmps54
    go_wp2
    go_loop [5] (fun i => i = .int .i64 0) (fun _ => 0)
    case atStart => rfl
    case round =>
      obtain rfl := hrel
      go_wp2
      go_ret
      exact ⟨by rw [HE.out]; rfl, rfl⟩
  · clear h
    go_enter Try.func54, Try.ntmps54
    go_wp2
    go_loop [5] (fun iv => ∃ i : Nat, i ≤ s.R.length ∧ iv = .int .i64 i ∧ Hid (∀ k, k < i → Trl.vr (Trl.get s.R k).lit ≠ v)) (fun iv => s.R.length - (intOf iv).toNat)
    case atStart => exact ⟨0, Nat.zero_le _, rfl, hid (fun k hk => by omega)⟩
    case round =>
      obtain ⟨i, hi, rfl, HN⟩ := hrel
      by_cases hlt : i < s.R.length
      · have hlt' : (i : Int) < s.R.length := by omega
        have x0 := HD.out.cell hlt (t := 0) rfl
        rw [Nat.add_zero] at x0
        have C53 := hid (var53 (Trl.get s.R i).lit W (i32_get HD.out.ok hlt))
        by_cases hv : Trl.vr (Trl.get s.R i).lit = v
        · have HE := hid (show Trl.idxI s.R v = i by
            unfold Trl.idxI
            rw [← hv, Trl.idx_at HD.out.ok.uniq hlt]; rfl)
          rw [hv] at C53
          generalize (Trl.get s.R i).lit = lt at *
          clear hv
          go_wp2_with (go_at_call 53; refine C53.out.mono ?_; rintro e w4 ⟨rfl, hw4⟩; rw [hw4]; clear hw4)
          go_ret
          exact ⟨by rw [HE.out]; rfl, rfl⟩
        · have hvb : (Trl.vr (Trl.get s.R i).lit == v) = false := by simpa using hv
          have HN2 := hid (show ∀ k, k < i + 1 → Trl.vr (Trl.get s.R k).lit ≠ v from fun k hk => by
            rcases Nat.lt_or_ge k i with h' | h'
            · exact HN.out k h'
            · obtain rfl : k = i := by omega
              exact hv)
          generalize Trl.vr (Trl.get s.R i).lit = vv at *
          generalize (Trl.get s.R i).lit = lt at *
          clear hv
          go_wp2_with (go_at_call 53; refine C53.out.mono ?_; rintro e w4 ⟨rfl, hw4⟩; rw [hw4]; clear hw4)
          exact ⟨⟨i + 1, by omega, by go_num, HN2⟩, by simp only [intOf]; omega⟩
      · have hge : ¬ (i : Int) < s.R.length := by omega
        have HE := hid (show Trl.idxI s.R v = -1 by
          unfold Trl.idxI
          rw [Trl.idx_no (fun e he => by
            obtain ⟨k, hk, rfl⟩ := List.getElem_of_mem he
            have := HN.out k (by omega)
            rw [show Trl.get s.R k = s.R[k] by simp [Trl.get, List.getD, hk]] at this
            exact this)]
          rfl)
        go_wp2
        go_ret
        exact ⟨by rw [HE.out]; rfl, rfl⟩
end Go.Proofs.Ytckpahdlcdgbpaa
