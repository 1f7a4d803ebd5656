/- The trail, plainly. -/
import Derived.WalkKit
namespace Trl
def vr (l : Int) : Int := if l < 0 then -l else l
theorem vr_neg (l : Int) : vr (-l) = vr l := by unfold vr; split <;> split <;> omega
theorem vr_pos (l : Int) : 0 ≤ vr l := by unfold vr; split <;> omega
/-- A literal on the trail. -/
structure E where
  lit : Int
  lev : Nat
  rea : Int
/-- What is known of a variable. -/
structure K where
  lit : Int
  lev : Int
  rea : Int
  pla : Int
def K0 : K := ⟨0, 0, 0, 0⟩
/-- The trail: what is on it, where its levels begin, the head. -/
structure S where
  R : List E
  B : List Nat
  h : Nat
def get (R : List E) (i : Nat) : E := R.getD i ⟨0, 0, 0⟩
theorem get_at {R : List E} {i : Nat} (h : i < R.length) : R[i]? = some (get R i) := by simp [get, List.getD, h]
theorem get_mem {R : List E} {i : Nat} (h : i < R.length) : get R i ∈ R := by simp [get, List.getD, h]
theorem get_of {R : List E} {i : Nat} {e : E} (h : R[i]? = some e) : get R i = e ∧ i < R.length := by
  have := (List.getElem?_eq_some_iff.1 h).1
  exact ⟨by simp [get, List.getD, h], this⟩
def idx (R : List E) (v : Int) : Option Nat := R.findIdx? (fun e => vr e.lit == v)
def know (R : List E) (v : Int) : K := (idx R v).elim K0 (fun i => ⟨(get R i).lit, (get R i).lev, (get R i).rea, i⟩)
theorem idx_some {R : List E} {v : Int} {i : Nat} (h : idx R v = some i) : i < R.length ∧ vr (get R i).lit = v := by
  unfold idx at h
  obtain ⟨hi, h1, _⟩ := List.findIdx?_eq_some_iff_getElem.1 h
  refine ⟨hi, ?_⟩
  have : get R i = R[i] := by simp [get, List.getD, hi]
  rw [this]
  simpa using h1
theorem idx_none {R : List E} {v : Int} (h : idx R v = none) : ∀ e ∈ R, vr e.lit ≠ v := by
  intro e he
  unfold idx at h
  have := List.findIdx?_eq_none_iff.1 h e he
  simpa using this
def Uniq (R : List E) : Prop := ∀ i j, i < R.length → j < R.length → vr (get R i).lit = vr (get R j).lit → i = j
theorem idx_at {R : List E} (hu : Uniq R) {i : Nat} (hi : i < R.length) : idx R (vr (get R i).lit) = some i := by
  cases h : idx R (vr (get R i).lit) with
  | none => exact absurd rfl (idx_none h _ (get_mem hi))
  | some j =>
    obtain ⟨h1, h2⟩ := idx_some h
    rw [hu j i h1 hi h2]
theorem idx_no {R : List E} {v : Int} (h : ∀ e ∈ R, vr e.lit ≠ v) : idx R v = none := by
  cases hx : idx R v with
  | none => rfl
  | some j =>
    obtain ⟨h1, h2⟩ := idx_some hx
    exact absurd h2 (h _ (get_mem h1))
structure Ok (n : Nat) (s : S) : Prop where
  lits : ∀ e ∈ s.R, 1 ≤ vr e.lit ∧ vr e.lit ≤ n
  uniq : Uniq s.R
  lev : ∀ e ∈ s.R, e.lev ≤ s.B.length
  beg : ∀ k, k < s.B.length → s.B.getD k 0 < s.R.length ∧ k ≤ s.B.getD k 0 ∧ (get s.R (s.B.getD k 0)).lev = k + 1 ∧ ∀ i, i < s.R.length → (k < (get s.R i).lev ↔ s.B.getD k 0 ≤ i)
  bl : s.B.length ≤ s.R.length
  rea : ∀ e ∈ s.R, -1 ≤ e.rea ∧ e.rea ≤ 9223372036854775807
  h : s.h ≤ s.R.length
  n : n ≤ 1048576
theorem pigeon : ∀ (n : Nat) (l : List Int), l.Nodup → (∀ x ∈ l, 1 ≤ x ∧ x ≤ n) → l.length ≤ n
  | 0, l, _, h => by
    cases l with
    | nil => exact Nat.le_refl _
    | cons x l => have := h x (by simp); omega
  | n + 1, l, hn, h => by
    have h1 := pigeon n (l.erase ((n + 1 : Nat) : Int)) (hn.erase _) (fun x hx => by
      rw [hn.mem_erase_iff] at hx
      have := h x hx.2
      have := hx.1
      omega)
    have h2 := List.length_erase (a := ((n + 1 : Nat) : Int)) (l := l)
    split at h2 <;> omega
theorem Ok.len {n : Nat} {s : S} (h : Ok n s) : s.R.length ≤ n := by
  have := pigeon n (s.R.map (fun e => vr e.lit)) (by
    unfold List.Nodup
    rw [List.pairwise_iff_getElem]
    intro i j hi hj hij he
    simp only [List.getElem_map] at he
    have hi' : i < s.R.length := by simpa using hi
    have hj' : j < s.R.length := by simpa using hj
    have e1 : get s.R i = s.R[i] := by simp [get, List.getD, hi']
    have e2 : get s.R j = s.R[j] := by simp [get, List.getD, hj']
    have := h.uniq i j hi' hj' (by rw [e1, e2]; exact he)
    omega) (fun x hx => by
    obtain ⟨e, he, rfl⟩ := List.mem_map.1 hx
    exact h.lits e he)
  simpa using this
theorem get_snoc {R : List E} {e : E} (i : Nat) : get (R ++ [e]) i = if i < R.length then get R i else if i = R.length then e else ⟨0, 0, 0⟩ := by
  unfold get
  simp only [List.getD, List.getElem?_append]
  by_cases h1 : i < R.length
  · rw [if_pos h1, if_pos h1]
  · rw [if_neg h1, if_neg h1]
    by_cases h2 : i = R.length
    · rw [if_pos h2, h2, Nat.sub_self]; rfl
    · rw [if_neg h2, List.getElem?_eq_none (by simp; omega)]; rfl
theorem get_take {R : List E} {k i : Nat} (h : i < k) : get (R.take k) i = get R i := by
  unfold get
  simp only [List.getD, List.getElem?_take_of_lt h]
theorem uniq_snoc {R : List E} {e : E} (h : Uniq R) (hn : ∀ f ∈ R, vr f.lit ≠ vr e.lit) : Uniq (R ++ [e]) := by
  intro i j hi hj he
  rw [List.length_append, List.length_singleton] at hi hj
  rw [get_snoc, get_snoc] at he
  by_cases h1 : i < R.length
  · by_cases h2 : j < R.length
    · rw [if_pos h1, if_pos h2] at he; exact h i j h1 h2 he
    · rw [if_pos h1, if_neg h2, if_pos (by omega)] at he
      exact absurd he (hn _ (get_mem h1))
  · by_cases h2 : j < R.length
    · rw [if_neg h1, if_pos (by omega), if_pos h2] at he
      exact absurd he.symm (hn _ (get_mem h2))
    · omega
theorem idx_snoc {R : List E} {e : E} (hn : ∀ f ∈ R, vr f.lit ≠ vr e.lit) (v : Int) : idx (R ++ [e]) v = if v = vr e.lit then some R.length else idx R v := by
  unfold idx
  rw [List.findIdx?_append]
  by_cases h : v = vr e.lit
  · subst h
    rw [if_pos rfl, show R.findIdx? (fun f => vr f.lit == vr e.lit) = none from idx_no hn]
    simp [List.findIdx?_cons]
  · rw [if_neg h]
    cases R.findIdx? (fun f => vr f.lit == v) with
    | none => simp [List.findIdx?_cons, Ne.symm h]
    | some i => simp
theorem know_snoc {R : List E} {e : E} (hn : ∀ f ∈ R, vr f.lit ≠ vr e.lit) (v : Int) : know (R ++ [e]) v = if v = vr e.lit then ⟨e.lit, e.lev, e.rea, R.length⟩ else know R v := by
  unfold know
  rw [idx_snoc hn]
  by_cases h : v = vr e.lit
  · rw [if_pos h, if_pos h]
    simp [get_snoc]
  · rw [if_neg h, if_neg h]
    cases hx : idx R v with
    | none => rfl
    | some i =>
      have := (idx_some hx).1
      simp [get_snoc, this]
theorem know_lit {n : Nat} {s : S} (h : Ok n s) (v : Int) : (know s.R v).lit = 0 ↔ idx s.R v = none := by
  unfold know
  cases hx : idx s.R v with
  | none => simp [K0]
  | some i =>
    have h1 := idx_some hx
    have h2 := (h.lits _ (get_mem h1.1)).1
    simp only [Option.elim_some, reduceCtorEq, iff_false]
    intro e
    rw [e] at h2
    simp [vr] at h2
/-- Why a literal may not come on. -/
def wrongE (n : Nat) (R : List E) (l r : Int) : Int := if vr l < 1 ∨ (n : Int) < vr l then 4 else if r < -1 then 160 else if (idx R (vr l)).isSome then 100 else 0
def put (s : S) (l r : Int) : S := ⟨s.R ++ [⟨l, s.B.length, r⟩], s.B, s.h⟩
def open_ (s : S) : S := ⟨s.R, s.B ++ [s.R.length], s.h⟩
def dec (n : Nat) (s : S) (l : Int) : S := if wrongE n s.R l (-1) = 0 then put (open_ s) l (-1) else s
def asg (n : Nat) (s : S) (l r : Int) : S := if wrongE n s.R l r = 0 then put s l r else s
def left (s : S) (lev : Nat) : Nat := if lev < s.B.length then s.B.getD lev 0 else s.R.length
def back (s : S) (lev : Nat) : S := ⟨s.R.take (left s lev), s.B.take lev, min s.h (left s lev)⟩
def gone (s : S) (lev : Nat) : List Int := ((s.R.drop (left s lev)).map E.lit).reverse
def next (s : S) : S := if s.h = s.R.length then s else ⟨s.R, s.B, s.h + 1⟩
def movable (R : List E) (to : List Int) : Prop := ∀ e ∈ R, e.rea = -1 ∨ (e.rea < to.length ∧ 0 ≤ to.getD e.rea.toNat 0)
def mv (to : List Int) (e : E) : E := if e.rea = -1 then e else { e with rea := to.getD e.rea.toNat 0 }
def move (s : S) (to : List Int) : S := ⟨s.R.map (mv to), s.B, s.h⟩
theorem wrong_ok {n : Nat} {R : List E} {l r : Int} (h : wrongE n R l r = 0) : 1 ≤ vr l ∧ vr l ≤ n ∧ -1 ≤ r ∧ idx R (vr l) = none := by
  unfold wrongE at h
  split at h
  · omega
  · split at h
    · omega
    · split at h
      · omega
      · rename_i h1 h2 h3
        refine ⟨by omega, by omega, by omega, ?_⟩
        cases hx : idx R (vr l) with
        | none => rfl
        | some i => rw [hx] at h3; simp at h3
theorem getD_snoc (B : List Nat) (b k : Nat) : (B ++ [b]).getD k 0 = if k < B.length then B.getD k 0 else if k = B.length then b else 0 := by
  simp only [List.getD, List.getElem?_append]
  by_cases h1 : k < B.length
  · rw [if_pos h1, if_pos h1]
  · rw [if_neg h1, if_neg h1]
    by_cases h2 : k = B.length
    · rw [if_pos h2, h2, Nat.sub_self]; rfl
    · rw [if_neg h2, List.getElem?_eq_none (by simp; omega)]; rfl
theorem Ok.put {n : Nat} {s : S} (h : Ok n s) {l r : Int} (h1 : 1 ≤ vr l) (h2 : vr l ≤ n) (hr : -1 ≤ r) (hr2 : r ≤ 9223372036854775807) (hn : idx s.R (vr l) = none) : Ok n (put s l r) := by
  have hn' := idx_none hn
  refine ⟨?_, uniq_snoc h.uniq hn', ?_, ?_, ?_, ?_, ?_, h.n⟩
  · intro e he
    rcases List.mem_append.1 he with he | he
    · exact h.lits e he
    · rw [List.mem_singleton.1 he]; exact ⟨h1, h2⟩
  · intro e he
    rcases List.mem_append.1 he with he | he
    · exact h.lev e he
    · rw [List.mem_singleton.1 he]; exact Nat.le_refl _
  · intro k hk
    have hb := h.beg k hk
    refine ⟨?_, hb.2.1, ?_, fun i hi => ?_⟩
    · show s.B.getD k 0 < (s.R ++ [_]).length
      have := hb.1
      rw [List.length_append]; omega
    · show (get (s.R ++ [_]) (s.B.getD k 0)).lev = k + 1
      rw [get_snoc, if_pos hb.1]; exact hb.2.2.1
    · have hi' : i < (s.R ++ [(⟨l, s.B.length, r⟩ : E)]).length := hi
      rw [List.length_append, List.length_singleton] at hi'
      show k < (get (s.R ++ [_]) i).lev ↔ s.B.getD k 0 ≤ i
      rw [get_snoc]
      by_cases hlt : i < s.R.length
      · rw [if_pos hlt]; exact hb.2.2.2 i hlt
      · rw [if_neg hlt, if_pos (by omega)]
        have hk' : k < s.B.length := hk
        have := hb.1
        constructor
        · intro _; omega
        · intro _; exact hk'
  · show s.B.length ≤ (s.R ++ [_]).length
    have := h.bl
    rw [List.length_append]; omega
  · intro e he
    rcases List.mem_append.1 he with he | he
    · exact h.rea e he
    · rw [List.mem_singleton.1 he]; exact ⟨hr, hr2⟩
  · show s.h ≤ (s.R ++ [_]).length
    have := h.h
    rw [List.length_append]; omega
theorem Ok.dec_ {n : Nat} {s : S} (h : Ok n s) {l : Int} (h1 : 1 ≤ vr l) (h2 : vr l ≤ n) (hn : idx s.R (vr l) = none) : Ok n (Trl.put (open_ s) l (-1)) := by
  have hn' := idx_none hn
  have hl : (open_ s).B.length = s.B.length + 1 := by simp [open_]
  refine ⟨?_, uniq_snoc h.uniq hn', ?_, ?_, ?_, ?_, ?_, h.n⟩
  · intro e he
    rcases List.mem_append.1 he with he | he
    · exact h.lits e he
    · rw [List.mem_singleton.1 he]; exact ⟨h1, h2⟩
  · intro e he
    show e.lev ≤ (open_ s).B.length
    rcases List.mem_append.1 he with he | he
    · have := h.lev e he; omega
    · rw [List.mem_singleton.1 he]; exact Nat.le_refl _
  · intro k hk
    have hk' : k < (open_ s).B.length := hk
    obtain ⟨e, he⟩ : ∃ e : E, e = ⟨l, (open_ s).B.length, -1⟩ := ⟨_, rfl⟩
    have hel : e.lev = (open_ s).B.length := by rw [he]
    have eR : (Trl.put (open_ s) l (-1)).R = s.R ++ [e] := by rw [he]; rfl
    have eB : (Trl.put (open_ s) l (-1)).B = s.B ++ [s.R.length] := rfl
    rw [eR, eB]
    rw [getD_snoc]
    by_cases hkl : k < s.B.length
    · have hb := h.beg k hkl
      rw [if_pos hkl]
      refine ⟨by have := hb.1; rw [List.length_append]; omega, hb.2.1, by rw [get_snoc, if_pos hb.1]; exact hb.2.2.1, fun i hi => ?_⟩
      rw [List.length_append, List.length_singleton] at hi
      rw [get_snoc]
      by_cases hlt : i < s.R.length
      · rw [if_pos hlt]; exact hb.2.2.2 i hlt
      · rw [if_neg hlt, if_pos (by omega), hel]
        have := hb.1
        constructor
        · intro _; omega
        · intro _; exact hk'
    · have hke : k = s.B.length := by omega
      rw [if_neg hkl, if_pos hke]
      have := h.bl
      refine ⟨by rw [List.length_append, List.length_singleton]; omega, by omega, by rw [get_snoc, if_neg (Nat.lt_irrefl _), if_pos rfl, hel, hl, hke], fun i hi => ?_⟩
      rw [List.length_append, List.length_singleton] at hi
      rw [get_snoc]
      by_cases hlt : i < s.R.length
      · rw [if_pos hlt]
        have := h.lev _ (get_mem hlt)
        constructor <;> intro _ <;> omega
      · rw [if_neg hlt, if_pos (by omega), hel]
        constructor
        · intro _; omega
        · intro _; exact hk'
  · show (s.B ++ [_]).length ≤ (s.R ++ [_]).length
    have := h.bl
    rw [List.length_append, List.length_append, List.length_singleton, List.length_singleton]; omega
  · intro e he
    rcases List.mem_append.1 he with he | he
    · exact h.rea e he
    · rw [List.mem_singleton.1 he]; exact ⟨Int.le_refl _, by show (-1 : Int) ≤ _; decide⟩
  · show s.h ≤ (s.R ++ [_]).length
    have := h.h
    rw [List.length_append]; omega
theorem Ok.dec {n : Nat} {s : S} (h : Ok n s) (l : Int) : Ok n (dec n s l) := by
  unfold Trl.dec
  split
  · rename_i he
    obtain ⟨h1, h2, _, h4⟩ := wrong_ok he
    exact h.dec_ h1 h2 h4
  · exact h
theorem Ok.asg {n : Nat} {s : S} (h : Ok n s) (l r : Int) (hr : r ≤ 9223372036854775807) : Ok n (asg n s l r) := by
  unfold Trl.asg
  split
  · rename_i he
    obtain ⟨h1, h2, h3, h4⟩ := wrong_ok he
    exact h.put h1 h2 h3 hr h4
  · exact h
theorem Ok.left {n : Nat} {s : S} (h : Ok n s) (lev : Nat) : left s lev ≤ s.R.length ∧ (∀ i, i < s.R.length → (left s lev ≤ i → lev < (get s.R i).lev)) ∧ (lev ≤ s.B.length → ∀ i, i < left s lev → (get s.R i).lev ≤ lev) := by
  unfold Trl.left
  split
  · rename_i hl
    have hb := h.beg lev hl
    refine ⟨Nat.le_of_lt hb.1, fun i hi h1 => (hb.2.2.2 i hi).2 h1, fun _ i hi => ?_⟩
    have h3 := hb.2.2.2 i (by have := hb.1; omega)
    rcases Nat.lt_or_ge lev (get s.R i).lev with h' | h'
    · have := h3.1 h'; omega
    · exact h'
  · refine ⟨Nat.le_refl _, fun i hi h1 => by omega, fun h2 i hi => ?_⟩
    have := h.lev _ (get_mem hi)
    omega
theorem uniq_take {R : List E} (h : Uniq R) (k : Nat) : Uniq (R.take k) := by
  intro i j hi hj he
  rw [List.length_take] at hi hj
  rw [get_take (by omega), get_take (by omega)] at he
  exact h i j (by omega) (by omega) he
theorem Ok.back {n : Nat} {s : S} (h : Ok n s) {lev : Nat} (hl : lev ≤ s.B.length) : Ok n (back s lev) := by
  obtain ⟨h1, h2, h3⟩ := h.left lev
  have hlen : (Trl.back s lev).R.length = Trl.left s lev := by show (s.R.take _).length = _; rw [List.length_take]; omega
  have hbl : (Trl.back s lev).B.length = lev := by show (s.B.take _).length = _; rw [List.length_take]; omega
  refine ⟨fun e he => h.lits e (List.mem_of_mem_take he), uniq_take h.uniq _, ?_, ?_, ?_, fun e he => h.rea e (List.mem_of_mem_take he), ?_, h.n⟩
  · intro e he
    rw [hbl]
    obtain ⟨i, hi, rfl⟩ := List.getElem_of_mem he
    have hi' : i < Trl.left s lev := by rw [hlen] at hi; exact hi
    have := h3 hl i hi'
    have e1 : get s.R i = (Trl.back s lev).R[i] := by
      have : (Trl.back s lev).R[i]? = s.R[i]? := by show (s.R.take _)[i]? = _; rw [List.getElem?_take_of_lt hi']
      rw [List.getElem?_eq_getElem hi] at this
      rw [get, List.getD, ← this]
      rfl
    rw [← e1]; exact this
  · intro k hk
    rw [hbl] at hk
    have hb := h.beg k (by omega)
    have eB : (Trl.back s lev).B.getD k 0 = s.B.getD k 0 := by
      show (s.B.take lev).getD k 0 = _
      simp only [List.getD, List.getElem?_take_of_lt hk]
    rw [eB, hlen]
    have hlt : s.B.getD k 0 < Trl.left s lev := by
      rcases Nat.lt_or_ge (s.B.getD k 0) (Trl.left s lev) with h' | h'
      · exact h'
      · have h4 := h2 _ hb.1 h'
        rw [hb.2.2.1] at h4
        omega
    refine ⟨hlt, hb.2.1, by show (get (s.R.take _) _).lev = _; rw [get_take hlt]; exact hb.2.2.1, fun i hi => ?_⟩
    · show k < (get (s.R.take _) i).lev ↔ _
      rw [get_take hi]
      exact hb.2.2.2 i (by omega)
  · rw [hbl, hlen]
    unfold Trl.left
    split
    · rename_i h4; exact (h.beg lev h4).2.1
    · have := h.bl; omega
  · show min s.h _ ≤ _
    rw [hlen]; exact Nat.min_le_right _ _
theorem Ok.next {n : Nat} {s : S} (h : Ok n s) : Ok n (next s) := by
  unfold Trl.next
  split
  · exact h
  · exact ⟨h.lits, h.uniq, h.lev, h.beg, h.bl, h.rea, by have := h.h; show s.h + 1 ≤ s.R.length; omega, h.n⟩
theorem mv_lit (to : List Int) (e : E) : (mv to e).lit = e.lit ∧ (mv to e).lev = e.lev := by unfold mv; split <;> exact ⟨rfl, rfl⟩
theorem get_map {R : List E} (to : List Int) {i : Nat} (h : i < R.length) : get (R.map (mv to)) i = mv to (get R i) := by simp [get, List.getD, h]
theorem Ok.move {n : Nat} {s : S} (h : Ok n s) {to : List Int} (ht : ∀ x ∈ to, x ≤ 9223372036854775807) (hm : movable s.R to) : Ok n (move s to) := by
  refine ⟨?_, ?_, ?_, ?_, ?_, ?_, ?_, h.n⟩
  · intro e he
    obtain ⟨f, hf, rfl⟩ := List.mem_map.1 he
    rw [(mv_lit to f).1]; exact h.lits f hf
  · intro i j hi hj he
    have hi' : i < s.R.length := by simpa [Trl.move] using hi
    have hj' : j < s.R.length := by simpa [Trl.move] using hj
    have he' : vr (get (s.R.map (mv to)) i).lit = vr (get (s.R.map (mv to)) j).lit := he
    rw [get_map to hi', get_map to hj', (mv_lit _ _).1, (mv_lit _ _).1] at he'
    exact h.uniq i j hi' hj' he'
  · intro e he
    obtain ⟨f, hf, rfl⟩ := List.mem_map.1 he
    rw [(mv_lit to f).2]; exact h.lev f hf
  · intro k hk
    have hb := h.beg k hk
    refine ⟨?_, hb.2.1, ?_, fun i hi => ?_⟩
    · show s.B.getD k 0 < (s.R.map _).length
      rw [List.length_map]; exact hb.1
    · show (get (s.R.map (mv to)) (s.B.getD k 0)).lev = k + 1
      rw [get_map to hb.1, (mv_lit _ _).2]; exact hb.2.2.1
    · have hi' : i < s.R.length := by simpa [Trl.move] using hi
      show k < (get (s.R.map (mv to)) i).lev ↔ _
      rw [get_map to hi', (mv_lit _ _).2]
      exact hb.2.2.2 i hi'
  · show s.B.length ≤ (s.R.map _).length
    rw [List.length_map]; exact h.bl
  · intro e he
    obtain ⟨f, hf, rfl⟩ := List.mem_map.1 he
    unfold mv
    split
    · exact h.rea f hf
    · rename_i hne
      rcases hm f hf with h1 | ⟨h1, h2⟩
      · exact absurd h1 hne
      · have hr := h.rea f hf
        refine ⟨by show -1 ≤ to.getD _ 0; omega, ?_⟩
        show to.getD f.rea.toNat 0 ≤ _
        have hlt : f.rea.toNat < to.length := by omega
        refine ht _ ?_
        simp [List.getD, hlt]
  · show s.h ≤ (s.R.map _).length
    rw [List.length_map]; exact h.h
/-- What is told of a variable, of a literal. -/
def levelOf (R : List E) (v : Int) : Int := if (know R v).lit = 0 then -1 else (know R v).lev
def reasonOf (R : List E) (v : Int) : Int := if (know R v).lit = 0 then -1 else (know R v).rea
def placeOf (R : List E) (v : Int) : Int := if (know R v).lit = 0 then -1 else (know R v).pla
def valueOf (R : List E) (l : Int) : Int := if (know R (vr l)).lit = 0 then 0 else if (know R (vr l)).lit = l then 1 else -1
def model (n : Nat) (R : List E) : List Bool := (List.range n).map (fun v => decide (0 < (know R ((v : Nat) + 1)).lit))
theorem Ok.new (n : Nat) (h : n ≤ 1048576) : Ok n ⟨[], [], 0⟩ := ⟨(fun e he => by cases he), (fun i j hi => by cases hi), (fun e he => by cases he), (fun k hk => by cases hk), Nat.le_refl _, (fun e he => by cases he), Nat.le_refl _, h⟩
end Trl
