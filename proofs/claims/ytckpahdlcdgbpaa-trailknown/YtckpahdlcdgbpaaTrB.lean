/- What follows, plainly: back at a level the trail is what it was. -/
import Derived.Test.YtckpahdlcdgbpaaTrP
namespace Trl
set_option linter.unusedVariables false
theorem know_at {n : Nat} {s : S} (h : Ok n s) {i : Nat} (hi : i < s.R.length) : know s.R (vr (get s.R i).lit) = ⟨(get s.R i).lit, (get s.R i).lev, (get s.R i).rea, i⟩ := by
  unfold know; rw [idx_at h.uniq hi]; rfl
theorem lit_ne {n : Nat} {s : S} (h : Ok n s) {i : Nat} (hi : i < s.R.length) : (get s.R i).lit ≠ 0 := by
  intro e
  have := (h.lits _ (get_mem hi)).1
  rw [e] at this
  simp [vr] at this
theorem tells_at {n : Nat} {s : S} (h : Ok n s) {i : Nat} (hi : i < s.R.length) : valueOf s.R (get s.R i).lit = 1 ∧ valueOf s.R (-(get s.R i).lit) = -1 ∧ placeOf s.R (vr (get s.R i).lit) = i ∧ levelOf s.R (vr (get s.R i).lit) = (get s.R i).lev := by
  have hk := know_at h hi
  have hn := lit_ne h hi
  refine ⟨?_, ?_, ?_, ?_⟩
  · unfold valueOf; rw [hk]; simp only; rw [if_neg hn, if_pos (by trivial)]
  · unfold valueOf; rw [vr_neg, hk]; simp only; rw [if_neg hn, if_neg (by omega)]
  · unfold placeOf; rw [hk]; simp only; rw [if_neg hn]
  · unfold levelOf; rw [hk]; simp only; rw [if_neg hn]
theorem lev_mono {n : Nat} {s : S} (h : Ok n s) {i j : Nat} (hij : i ≤ j) (hj : j < s.R.length) : (get s.R i).lev ≤ (get s.R j).lev := by
  rcases Nat.eq_zero_or_pos (get s.R i).lev with h0 | h0
  · omega
  · have hl := h.lev _ (get_mem (R := s.R) (i := i) (by omega))
    have hb := h.beg ((get s.R i).lev - 1) (by omega)
    have h1 := (hb.2.2.2 i (by omega)).1 (by omega)
    have h2 := (hb.2.2.2 j hj).2 (by omega)
    omega
/-- What came of s1, all above its levels. -/
def Ext (s1 s : S) : Prop := (s.R = s1.R ∧ s.B = s1.B) ∨ ∃ X Y, s.R = s1.R ++ X ∧ s.B = s1.B ++ s1.R.length :: Y
theorem Ext.refl (s : S) : Ext s s := .inl ⟨rfl, rfl⟩
theorem Ext.first {s1 s : S} (h : Ext s1 s) : s.B.length = s1.B.length ↔ (s.R = s1.R ∧ s.B = s1.B) := by
  rcases h with h | ⟨X, Y, h1, h2⟩
  · exact ⟨fun _ => h, fun _ => by rw [h.2]⟩
  · constructor
    · intro e; rw [h2] at e; simp at e
    · rintro ⟨_, e⟩; rw [e]
theorem Ext.dec {n : Nat} {s1 s : S} (h : Ext s1 s) (l : Int) : Ext s1 (dec n s l) := by
  unfold Trl.dec
  split
  · rcases h with ⟨h1, h2⟩ | ⟨X, Y, h1, h2⟩
    · right
      refine ⟨[⟨l, (open_ s).B.length, -1⟩], [], ?_, ?_⟩
      · show s.R ++ _ = _; rw [h1]
      · show s.B ++ [s.R.length] = _; rw [h1, h2]
    · right
      refine ⟨X ++ [⟨l, (open_ s).B.length, -1⟩], Y ++ [s.R.length], ?_, ?_⟩
      · show s.R ++ _ = _; rw [h1, List.append_assoc]
      · show s.B ++ [s.R.length] = _; rw [h2, List.append_assoc]; rfl
  · exact h
theorem Ext.asg {n : Nat} {s1 s : S} (h : Ext s1 s) (hf : s.B.length ≠ s1.B.length) (l r : Int) : Ext s1 (asg n s l r) := by
  unfold Trl.asg
  split
  · rcases h with ⟨h1, h2⟩ | ⟨X, Y, h1, h2⟩
    · exact absurd (by rw [h2]) hf
    · right
      refine ⟨X ++ [⟨l, s.B.length, r⟩], Y, ?_, h2⟩
      show s.R ++ _ = _; rw [h1, List.append_assoc]
  · exact h
theorem Ext.left {s1 s : S} (h : Ext s1 s) : left s s1.B.length = s1.R.length ∧ s1.B.length ≤ s.B.length ∧ s1.R.length ≤ s.R.length ∧ s.R.take s1.R.length = s1.R ∧ s.B.take s1.B.length = s1.B := by
  rcases h with ⟨h1, h2⟩ | ⟨X, Y, h1, h2⟩
  · unfold Trl.left
    rw [h1, h2, if_neg (Nat.lt_irrefl _)]
    exact ⟨rfl, Nat.le_refl _, Nat.le_refl _, List.take_length, List.take_length⟩
  · have hl : s1.B.length < s.B.length := by rw [h2]; simp
    unfold Trl.left
    rw [if_pos hl, h1, h2]
    refine ⟨?_, by simp, by simp, by simp, by simp⟩
    simp [List.getD]
theorem Ext.backS {s1 s : S} (h : Ext s1 s) : (back s s1.B.length).R = s1.R ∧ (back s s1.B.length).B = s1.B ∧ gone s s1.B.length = ((s.R.drop s1.R.length).map E.lit).reverse := by
  obtain ⟨h1, h2, h3, h4, h5⟩ := h.left
  refine ⟨?_, ?_, ?_⟩
  · show s.R.take _ = _; rw [h1, h4]
  · exact h5
  · unfold gone; rw [h1]
/-- What is told of what went. -/
theorem gone_tells {n : Nat} {s1 s : S} (hs : Ok n s) (h : Ext s1 s) {i : Nat} (hi : i < s.R.length - s1.R.length) :
    valueOf s1.R (get s.R (s.R.length - 1 - i)).lit = 0 ∧ levelOf s1.R (vr (get s.R (s.R.length - 1 - i)).lit) = -1 := by
  obtain ⟨h1, h2, h3, h4, h5⟩ := h.left
  have hk : know s1.R (vr (get s.R (s.R.length - 1 - i)).lit) = K0 := by
    unfold know
    rw [idx_no (fun e he hv => ?_)]
    · rfl
    · rw [← h4] at he
      obtain ⟨j, hj, rfl⟩ := List.getElem_of_mem he
      rw [List.length_take] at hj
      have e1 : get s.R j = (s.R.take s1.R.length)[j] := by simp [get, List.getD, List.getElem?_eq_getElem (show j < s.R.length by omega)]
      have := hs.uniq j (s.R.length - 1 - i) (by omega) (by omega) (by rw [e1, hv])
      omega
  constructor
  · unfold valueOf; rw [hk]; rfl
  · unfold levelOf; rw [hk]; rfl
def pk (i : Int) (n : Nat) : Int := (i.tmod n + n).tmod n
def putS (n : Nat) (s : S) (k l r : Int) : S := if pk k 2 = 0 then dec n s l else asg n s l r
theorem pk_zero : pk 0 2 = 0 := by decide
theorem Ok.putS {n : Nat} {s : S} (h : Ok n s) (k l r : Int) (hr : r ≤ 9223372036854775807) : Ok n (putS n s k l r) := by
  unfold Trl.putS; split
  · exact h.dec l
  · exact h.asg l r hr
theorem Ext.putS {n : Nat} {s1 s : S} (h : Ext s1 s) (k l r : Int) (hk : s.B.length = s1.B.length → k = 0) : Ext s1 (putS n s k l r) := by
  unfold Trl.putS
  by_cases hf : s.B.length = s1.B.length
  · rw [hk hf, if_pos pk_zero]; exact h.dec l
  · split
    · exact h.dec l
    · exact h.asg hf l r
end Trl
