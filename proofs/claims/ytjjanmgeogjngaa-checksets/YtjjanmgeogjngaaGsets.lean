/- Clauses are looked at as sets: a step with its literals doubled behind is answered as the step, by a checker of the formula with all clauses doubled so, for every formula and every row of steps. -/
import Derived.Test.YtjjanmgeogjngaaGe
import Derived.Test.YtjjanmgeogjngaaGg
import Derived.Test.YtjjanmgeogjngaaGa
import Derived.Test.YtjjanmgeogjngaaGh
import Derived.Deep.RegionLaw
import Derived.Test.YtjjanmgeogjngaaRows
import Derived.ShutString
import Derived.ChangeMaps5
import Derived.Below
/- A clause with its literals once more behind is the same clause: plain. -/
namespace Ckr
theorem vl_neg2 {T : List Int} {l : Int} (h : vl T l < 0) : l ∉ T ∧ -l ∈ T := by
  unfold vl at h
  by_cases h1 : l ∈ T
  · rw [if_pos h1] at h; omega
  · by_cases h2 : -l ∈ T
    · exact ⟨h1, h2⟩
    · rw [if_neg h1, if_neg h2] at h; omega
theorem vl_of {T : List Int} {l : Int} (h1 : l ∉ T) (h2 : -l ∈ T) : vl T l < 0 := by
  unfold vl; rw [if_neg h1, if_pos h2]; omega
/-- What is false stays so when one more literal is denied. -/
theorem vl_keep {T : List Int} {l x : Int} (h : vl T l < 0) (hx : ¬ 0 < vl T x) : vl (T ++ [-x]) l < 0 := by
  obtain ⟨h1, h2⟩ := vl_neg2 h
  refine vl_of (fun hm => ?_) (List.mem_append_left _ h2)
  rcases List.mem_append.1 hm with hm | hm
  · exact h1 hm
  · have e : l = -x := List.mem_singleton.1 hm
    have : x ∈ T := by rw [e] at h2; simpa using h2
    unfold vl at hx
    rw [if_pos this] at hx
    omega
theorem deny_false {but : Int} : ∀ (xs : List Int) (T : List Int), (∀ x ∈ xs, x ≠ 0) → (denyL but T xs).1 = false → (∀ l, vl T l < 0 → vl (denyL but T xs).2 l < 0) ∧ ∀ l ∈ xs, l = but ∨ (vl (denyL but T xs).2 l < 0 ∧ l ≠ -but) := by
  intro xs
  induction xs with
  | nil => intro T _ h; exact ⟨fun l h => h, fun l hl => by cases hl⟩
  | cons x xs ih =>
    intro T h0 h
    have h00 := h0 x (.head _)
    have h0' : ∀ y ∈ xs, y ≠ 0 := fun y hy => h0 y (.tail _ hy)
    rw [denyL] at h ⊢
    by_cases e1 : x = but
    · rw [if_pos e1] at h ⊢
      obtain ⟨a, b⟩ := ih T h0' h
      exact ⟨a, fun l hl => (List.mem_cons.1 hl).elim (fun e => .inl (e.trans e1)) (b l)⟩
    · rw [if_neg e1] at h ⊢
      by_cases e2 : 0 < vl T x ∨ x = -but
      · rw [if_pos e2] at h; cases h
      · rw [if_neg e2] at h ⊢
        by_cases e3 : vl T x = 0
        · rw [if_pos e3] at h ⊢
          obtain ⟨a, b⟩ := ih _ h0' h
          refine ⟨fun l hl => a l (vl_keep hl (by omega)), fun l hl => (List.mem_cons.1 hl).elim (fun e => .inr ⟨?_, fun h => e2 (.inr (e ▸ h))⟩) (b l)⟩
          subst e
          refine a l (vl_of (fun hm => ?_) (by simp))
          rcases List.mem_append.1 hm with hm | hm
          · unfold vl at e3; rw [if_pos hm] at e3; omega
          · have := List.mem_singleton.1 hm; omega
        · rw [if_neg e3] at h ⊢
          obtain ⟨a, b⟩ := ih T h0' h
          refine ⟨a, fun l hl => (List.mem_cons.1 hl).elim (fun e => .inr ⟨?_, fun h => e2 (.inr (e ▸ h))⟩) (b l)⟩
          subst e
          exact a l (by omega)
/-- Literals that are false already, or the one left aside: nothing is denied. -/
theorem deny_skip {but : Int} : ∀ (ys : List Int) (T : List Int), (∀ l ∈ ys, l = but ∨ (vl T l < 0 ∧ l ≠ -but)) → denyL but T ys = (false, T) := by
  intro ys
  induction ys with
  | nil => intro T _; rfl
  | cons y ys ih =>
    intro T h
    have ih := ih T (fun l hl => h l (.tail _ hl))
    rw [denyL]
    rcases h y (.head _) with e | ⟨e, e2⟩
    · rw [if_pos e, ih]
    · by_cases e1 : y = but
      · rw [if_pos e1, ih]
      · rw [if_neg e1, if_neg (by rintro (h | h); omega; exact e2 h), if_neg (by omega), ih]
theorem deny_append {but : Int} : ∀ (xs ys : List Int) (T : List Int), denyL but T (xs ++ ys) = if (denyL but T xs).1 then (true, (denyL but T xs).2) else denyL but (denyL but T xs).2 ys := by
  intro xs ys
  induction xs with
  | nil => intro T; rfl
  | cons x xs ih =>
    intro T
    simp only [List.cons_append]
    rw [denyL, denyL]
    split
    · exact ih T
    · split
      · rfl
      · split
        · exact ih _
        · exact ih T
theorem deny_dbl (but : Int) (T xs : List Int) (h0 : ∀ x ∈ xs, x ≠ 0) : denyL but T (xs ++ xs) = denyL but T xs := by
  rw [deny_append]
  cases h : (denyL but T xs).1
  · obtain ⟨_, b⟩ := deny_false xs T h0 h
    rw [if_neg (by decide), deny_skip _ _ b, ← h]
  · rw [if_pos rfl, ← h]
theorem meet_some {T : List Int} : ∀ (xs : List Int) (f g : Int), (∀ x ∈ xs, x ≠ 0) → meetL T f xs = some g → (f ≠ 0 → g = f) ∧ ∀ l ∈ xs, vl T l < 0 ∨ l = g := by
  intro xs
  induction xs with
  | nil => intro f g _ h; injection h with h; exact ⟨fun _ => h.symm, fun l hl => by cases hl⟩
  | cons x xs ih =>
    intro f g h0 h
    have h0' : ∀ y ∈ xs, y ≠ 0 := fun y hy => h0 y (.tail _ hy)
    have hx0 := h0 x (.head _)
    rw [meetL] at h
    by_cases e1 : vl T x < 0 ∨ x = f
    · rw [if_pos e1] at h
      obtain ⟨a, b⟩ := ih f g h0' h
      refine ⟨a, fun l hl => (List.mem_cons.1 hl).elim (fun e => ?_) (b l)⟩
      subst e
      rcases e1 with e1 | e1
      · exact .inl e1
      · exact .inr (e1.trans (a (by omega)).symm)
    · rw [if_neg e1] at h
      by_cases e2 : 0 < vl T x ∨ f ≠ 0
      · rw [if_pos e2] at h; cases h
      · rw [if_neg e2] at h
        obtain ⟨a, b⟩ := ih x g h0' h
        refine ⟨fun hf => absurd (.inr hf) e2, fun l hl => (List.mem_cons.1 hl).elim (fun e => ?_) (b l)⟩
        subst e
        exact .inr (a hx0).symm
theorem meet_skips {T : List Int} {g : Int} : ∀ (ys : List Int), (∀ l ∈ ys, vl T l < 0 ∨ l = g) → meetL T g ys = some g := by
  intro ys
  induction ys with
  | nil => intro _; rfl
  | cons y ys ih =>
    intro h
    rw [meetL, if_pos (h y (.head _))]
    exact ih (fun l hl => h l (.tail _ hl))
theorem meet_append {T : List Int} : ∀ (xs ys : List Int) (f : Int), meetL T f (xs ++ ys) = (meetL T f xs).bind (fun g => meetL T g ys) := by
  intro xs ys
  induction xs with
  | nil => intro f; rfl
  | cons x xs ih =>
    intro f
    simp only [List.cons_append]
    rw [meetL, meetL]
    split
    · exact ih f
    · split
      · rfl
      · exact ih x
theorem meet_dbl (T : List Int) (f : Int) (xs : List Int) (h0 : ∀ x ∈ xs, x ≠ 0) : meetL T f (xs ++ xs) = meetL T f xs := by
  rw [meet_append]
  cases h : meetL T f xs with
  | none => rfl
  | some g => exact meet_skips xs (meet_some xs f g h0 h).2
/-- Clauses, each with its literals once more. -/
def dF (F : Int → Option (List Int)) (id : Int) : Option (List Int) := (F id).map (fun xs => xs ++ xs)
theorem thru_dbl (F : Int → Option (List Int)) (h0 : ∀ id xs, F id = some xs → ∀ x ∈ xs, x ≠ 0) : ∀ (hs T : List Int), thru (dF F) T hs = thru F T hs := by
  intro hs
  induction hs with
  | nil => intro T; rfl
  | cons h hs ih =>
    intro T
    rw [thru, thru]
    cases e : F h with
    | none => simp only [dF, e]; rfl
    | some c =>
      simp only [dF, e, Option.map_some]
      rw [meet_dbl T 0 c (h0 h c e), ih]
theorem group_dbl (F : Int → Option (List Int)) (h0 : ∀ id xs, F id = some xs → ∀ x ∈ xs, x ≠ 0) (T c : List Int) (hc : ∀ x ∈ c, x ≠ 0) (p : Int) (hs : List Int) : groupE (dF F) T (c ++ c) p hs = groupE F T c p hs := by
  unfold groupE
  rw [deny_dbl _ _ _ hc, thru_dbl F h0]
theorem times_dbl (l : Int) (xs : List Int) : times l (xs ++ xs) = 2 * times l xs := by
  unfold times; rw [List.filter_append, List.length_append]; omega
end Ckr

/- A step with its literals once more, by a checker whose clauses have theirs once more: plain. -/
namespace Ckr
set_option linter.unusedVariables false
def dC (C : List (Int × List Int)) : List (Int × List Int) := C.map (fun p => (p.1, p.2 ++ p.2))
theorem look_dC (C : List (Int × List Int)) (id : Int) : look (dC C) id = dF (look C) id := by
  unfold dF look dC
  rw [List.find?_map, Option.map_map, Option.map_map]
  rfl
theorem look_dC' (C : List (Int × List Int)) : look (dC C) = dF (look C) := funext (look_dC C)
theorem all_dC (C : List (Int × List Int)) : (all (dC C)).length = 2 * (all C).length := by
  unfold all dC
  induction C with
  | nil => rfl
  | cons p C ih =>
    simp only [List.map_cons, List.flatMap_cons, List.length_append] at ih ⊢
    omega
theorem times_dC (l : Int) (C : List (Int × List Int)) : times l (all (dC C)) = 2 * times l (all C) := by
  unfold all dC
  induction C with
  | nil => rfl
  | cons p C ih =>
    simp only [List.map_cons, List.flatMap_cons]
    unfold times at ih ⊢
    simp only [List.filter_append, List.length_append]
    omega
theorem drop1_dC (C : List (Int × List Int)) (id : Int) : drop1 (dC C) id = dC (drop1 C id) := by
  unfold drop1 dC
  rw [List.filter_map]
  rfl
theorem dropL_dC (ids : List Int) : ∀ C, dropL (dC C) ids = dC (dropL C ids) := by
  induction ids with
  | nil => intro C; rfl
  | cons i ids ih => intro C; show dropL (drop1 (dC C) i) ids = dC (dropL (drop1 C i) ids); rw [drop1_dC, ih]
theorem remOK_dC (C : List (Int × List Int)) (ids : List Int) : remOK (dC C) ids = remOK C ids := by
  unfold remOK
  congr 2
  funext i
  rw [look_dC]
  unfold dF
  rw [Option.isSome_map]
theorem nz_of {C : List (Int × List Int)} (h : ∀ x ∈ all C, x ≠ 0) : ∀ id xs, look C id = some xs → ∀ x ∈ xs, x ≠ 0 := fun id xs e x hx => h x (mem_all (look_mem e) x hx)
theorem getD_dF (F : Int → Option (List Int)) (id : Int) : (dF F id).getD [] = (F id).getD [] ++ (F id).getD [] := by
  unfold dF; cases F id <;> rfl
theorem cover_dbl (F : Int → Option (List Int)) (h0 : ∀ id xs, F id = some xs → ∀ x ∈ xs, x ≠ 0) (T ls ls' : List Int) (p : Int) (hl : times (-p) ls' = 2 * times (-p) ls) : ∀ (k : Nat) (bf sn : Int) (hs : List Int), coverF (dF F) T ls' p k bf (2 * sn) hs = coverF F T ls p k bf sn hs := by
  intro k
  induction k with
  | zero => intro bf sn hs; simp [coverF]
  | succ k ih =>
    intro bf sn hs
    cases hs with
    | nil =>
      rw [coverF, coverF, hl]
      by_cases h : sn < (times (-p) ls : Int)
      · rw [if_pos h, if_pos (by omega)]
      · rw [if_neg h, if_neg (by omega)]
    | cons x hs =>
      have hc : ∀ y ∈ (F (-x)).getD [], y ≠ 0 := by
        cases e : F (-x) with
        | none => intro y hy; cases hy
        | some c => exact h0 _ c e
      rw [coverF, coverF, getD_dF, times_dbl, group_dbl F h0 T _ hc]
      have e1 : (-x ≤ bf ∨ 2 * times (-p) ((F (-x)).getD []) = 0) ↔ (-x ≤ bf ∨ times (-p) ((F (-x)).getD []) = 0) := by omega
      have e2 : 2 * sn + ((2 * times (-p) ((F (-x)).getD []) : Nat) : Int) = 2 * (sn + (times (-p) ((F (-x)).getD []) : Int)) := by omega
      rw [e2, ih]
      by_cases h : -x ≤ bf ∨ times (-p) ((F (-x)).getD []) = 0
      · rw [if_pos h, if_pos (e1.2 h)]
      · rw [if_neg h, if_neg (fun h' => h (e1.1 h'))]
theorem follows_dbl (C : List (Int × List Int)) (h0 : ∀ x ∈ all C, x ≠ 0) (lits hs : List Int) (hl : ∀ x ∈ lits, x ≠ 0) : followsF (look (dC C)) (all (dC C)) (lits ++ lits) hs = followsF (look C) (all C) lits hs := by
  unfold followsF
  rw [look_dC', deny_dbl 0 [] lits hl, thru_dbl _ (nz_of h0)]
  have e1 : (0 < (lits ++ lits).length) ↔ 0 < lits.length := by rw [List.length_append]; omega
  by_cases hp : 0 < lits.length
  · have e2 : (lits ++ lits).getD 0 0 = lits.getD 0 0 := by
      rw [List.getD_eq_getElem?_getD, List.getD_eq_getElem?_getD, List.getElem?_append_left hp]
    have := cover_dbl (look C) (nz_of h0) (thru (look C) (denyL 0 [] lits).2 (ahead hs)).2 (all C) (all (dC C)) (lits.getD 0 0) (times_dC _ C) ((behind hs).length + 1) 0 0 (behind hs)
    rw [Int.mul_zero] at this
    rw [e2, this]
    simp only [e1]
  · have : ¬ 0 < (lits ++ lits).length := fun h => hp (e1.1 h)
    simp only [hp, this, and_false, if_false]
/-- The checker with its clauses' literals once more. -/
def dS (S : St) : St := ⟨dC S.C, S.last, S.dn⟩
def dStp (s : Lra.Stp) : Lra.Stp := { s with lits := s.lits ++ s.lits }
theorem may_dbl (s : Lra.Stp) : Lra.may (dStp s) = Lra.may s := by
  unfold Lra.may dStp
  simp only [List.all_append, Bool.and_self]
  have : (s.lits ++ s.lits).isEmpty = s.lits.isEmpty := by cases s.lits <;> rfl
  rw [this]
theorem may_lits {s : Lra.Stp} (h : Lra.may s = true) (h1 : ¬ s.kind = 2) : ∀ x ∈ s.lits, Lra.literal x = true := by
  unfold Lra.may at h
  by_cases e : s.kind = 1
  · rw [if_pos e, Bool.and_eq_true, Bool.and_eq_true] at h
    exact fun x hx => List.all_eq_true.1 h.2.1 x hx
  · rw [if_neg e, if_neg h1] at h; cases h
theorem step_dbl (S : St) (s : Lra.Stp) (h0 : ∀ x ∈ all S.C, x ≠ 0) (hz : ∀ x, Lra.literal x = true → x ≠ 0) (hf : (all S.C).length + s.lits.length ≤ 4194304) : stepP (dS S) (dStp s) = ((stepP S s).1, dS (stepP S s).2) := by
  unfold stepP
  rw [may_dbl]
  cases hm : Lra.may s
  · rfl
  · simp only [if_true]
    by_cases hk : s.kind = 2
    · have hk' : (dStp s).kind = 2 := hk
      rw [if_pos hk, if_pos hk']
      unfold remS
      have e1 : remOK (dS S).C (dStp s).hints = remOK S.C s.hints := remOK_dC S.C s.hints
      rw [e1]
      cases remOK S.C s.hints
      · rfl
      · simp only [if_true]
        rw [show (dS S).C = dC S.C from rfl, show (dStp s).hints = s.hints from rfl, dropL_dC]
        rfl
    · have hk' : ¬ (dStp s).kind = 2 := hk
      rw [if_neg hk, if_neg hk']
      have hlz : ∀ x ∈ s.lits, x ≠ 0 := fun x hx => hz x (may_lits hm hk x hx)
      have eA : addE (dS S).C (dS S).last (dStp s) = addE S.C S.last s := by
        unfold addE
        show (if s.id ≤ S.last then (62 : Int) else if followsF (look (dC S.C)) (all (dC S.C)) (s.lits ++ s.lits) s.hints = 0 then (if (16777216 : Int) - (all (dC S.C)).length < (s.lits ++ s.lits).length then 3 else 0) else followsF (look (dC S.C)) (all (dC S.C)) (s.lits ++ s.lits) s.hints) = _
        rw [follows_dbl S.C h0 s.lits s.hints hlz, all_dC, List.length_append]
        rw [if_neg (show ¬ ((16777216 : Int) - ((2 * (all S.C).length : Nat) : Int) < ((s.lits.length + s.lits.length : Nat) : Int)) by omega), if_neg (show ¬ ((16777216 : Int) - ((all S.C).length : Nat) < (s.lits.length : Nat)) by omega)]
      unfold addS
      rw [eA]
      by_cases e0 : addE S.C S.last s = 0
      · rw [if_pos e0, if_pos e0]
        have e1 : (s.lits ++ s.lits).isEmpty = s.lits.isEmpty := by cases s.lits <;> rfl
        show (_, (⟨dC S.C ++ [(s.id, s.lits ++ s.lits)], s.id, S.dn || (s.lits ++ s.lits).isEmpty⟩ : St)) = _
        rw [e1]
        unfold dS dC
        simp
      · rw [if_neg e0, if_neg e0]
/-- The clauses' ids are the same. -/
theorem ids_dC (C : List (Int × List Int)) : (dC C).map (·.1) = C.map (·.1) := by
  unfold dC; rw [List.map_map]; rfl
theorem num_dbl (cs : List (List Int)) : ∀ i, num i (cs.map (fun c => c ++ c)) = dC (num i cs) := by
  induction cs with
  | nil => intro i; rfl
  | cons c cs ih => intro i; simp only [List.map_cons, num, ih]; rfl
end Ckr

/- Two checkers side by side. -/
namespace Go.Proofs.Ytjjanmgeogjngaa
open Go.RowKit Go.Maps
set_option linter.unusedVariables false
/-- A block of the checker's. -/
def Own5 (cb bm : Nat) (t r : Option Nat) (W : World) (g : Nat) : Prop := g = cb ∨ g = bm ∨ t = some g ∨ r = some g ∨ VB W cb = some g ∨ Rs bm W g
section
variable {n0 cb bm : Nat} {t r : Option Nat} {k : Nat} {W W' : World} {C : List (Int × List Int)} {last : Int} {dn : Bool}
theorem id64 (hG : Ckr.Good C last) {id : Int} {xs : List Int} (h : Ckr.look C id = some xs) : I64 id := by
  have h1 := hG.ids _ (Ckr.look_mem h)
  have h2 := hG.last_
  simp only at h1
  exact ⟨by omega, by omega⟩
theorem Ck.rs (h : Ck n0 cb bm t r k W C last dn) : ∃ f, Stood n0 bm k f (Ckr.look C) r W ∧ (∀ id v, f id = some v → I64 id) ∧ ∀ g, Rs bm W g → ∃ id v, f id = some v ∧ v.ownBlock = some g := by
  obtain ⟨f, tm, at3, ct3, hA, hS, ho, ht, hT⟩ := h.mem
  refine ⟨f, hS, fun id v hv => ?_, fun g hg => ?_⟩
  · obtain ⟨xs, hF, _⟩ := hS.some_ id v hv
    exact id64 h.good hF
  · obtain ⟨k', f', id, v, hi, hm, hf, hv⟩ := hg
    exact ⟨id, v, by rw [hS.map.uniq hm hi]; exact hf, hv⟩
theorem Ck.lt (h : Ck n0 cb bm t r k W C last dn) {g : Nat} (hg : Own5 cb bm t r W g) : g < W.heap.size := by
  obtain ⟨f0, hS0, _, hR⟩ := h.rs
  have hf := h.facts
  obtain ⟨f, tm, at3, ct3, hA, hS, ho, ht, hT⟩ := h.mem
  obtain ⟨vals, vv, vr, hre, hcb, hsz, hc, hov, hot, hV⟩ := hA
  rcases hg with rfl | rfl | e | e | e | e
  · exact (Array.getElem?_eq_some_iff.1 hc).1
  · exact hS.map.lt
  · exact (hf.2.2.1 g e).2
  · exact (hf.2.2.2.1 g e).2
  · rw [VB.of hc] at e
    obtain ⟨_, cur, h2⟩ := own_blk hov e
    exact (Array.getElem?_eq_some_iff.1 h2).1
  · obtain ⟨id, v, hv, e⟩ := hR g e
    obtain ⟨xs, _, ho', _⟩ := hS0.some_ id v hv
    obtain ⟨_, cur, h2⟩ := own_blk ho' e
    exact (Array.getElem?_eq_some_iff.1 h2).1
theorem Ck.lo (h : Ck n0 cb bm t r k W C last dn) {g : Nat} (hg : Own5 cb bm t r W g) : n0 ≤ g := by
  obtain ⟨f0, hS0, _, hR⟩ := h.rs
  have hf := h.facts
  obtain ⟨f, tm, at3, ct3, hA, hS, ho, ht, hT⟩ := h.mem
  obtain ⟨vals, vv, vr, hre, hcb, hsz, hc, hov, hot, hV⟩ := hA
  rcases hg with rfl | rfl | e | e | e | e
  · exact hf.1
  · exact hf.2.1
  · exact (hf.2.2.1 g e).1
  · exact (hf.2.2.2.1 g e).1
  · rw [VB.of hc] at e
    exact (own_blk hov e).1
  · obtain ⟨id, v, hv, e⟩ := hR g e
    obtain ⟨xs, _, ho', _⟩ := hS0.some_ id v hv
    exact (own_blk ho' e).1
/-- It stays, where its blocks stay; and they are the same. -/
theorem Ck.stay (h : Ck n0 cb bm t r k W C last dn) (hs : W.heap.size ≤ W'.heap.size) (hk : ∀ g, Own5 cb bm t r W g → W'.heap[g]? = W.heap[g]?) : Ck n0 cb bm t r k W' C last dn ∧ ∀ g, Own5 cb bm t r W' g → Own5 cb bm t r W g := by
  have hcb := hk cb (.inl rfl)
  have hbm := hk bm (.inr (.inl rfl))
  refine ⟨?_, fun g hg => ?_⟩
  · obtain ⟨f, tm, at3, ct3, hA, hS, ho, ht, hT⟩ := h.mem
    obtain ⟨vals, vv, vr, hre, hcb', hsz, hc, hov, hot, hV⟩ := hA
    refine ⟨h.good, f, tm, at3, ct3, ⟨vals, vv, vr, hre, hcb', by omega, hcb.trans hc, own_keep hov (fun g cs e _ => hk g ?_), own_keep hot (fun g cs e _ => hk g ?_), hV⟩, ⟨hS.map.same hbm, hS.base, hS.none_, fun id v hv => ?_⟩, own_keep ho (fun g cs e _ => hk g ?_), ht, hT⟩
    · exact .inr (.inr (.inr (.inr (.inl (by rw [VB.of hc]; exact e)))))
    · exact .inr (.inr (.inr (.inl (hre.trans e))))
    · obtain ⟨xs, hF, ho', hne⟩ := hS.some_ id v hv
      exact ⟨xs, hF, own_keep ho' (fun g cs e _ => hk g (.inr (.inr (.inr (.inr (.inr ⟨k, f, id, v, id64 h.good hF, hS.map, hv, e⟩)))))), hne⟩
    · exact .inr (.inr (.inl (ht.trans e)))
  · rcases hg with e | e | e | e | e | e
    · exact .inl e
    · exact .inr (.inl e)
    · exact .inr (.inr (.inl e))
    · exact .inr (.inr (.inr (.inl e)))
    · exact .inr (.inr (.inr (.inr (.inl (by rw [← VB.same hcb]; exact e)))))
    · exact .inr (.inr (.inr (.inr (.inr (e.same hbm)))))
/-- Behind a step its blocks are the old ones, or new. -/
theorem Fp.own (h : Ck n0 cb bm t r k W C last dn) {t' r' : Option Nat} (hF : Fp n0 cb bm t r W W') (ht : Nw W t t') (hr : Nw W r r') {g : Nat} (hg : Own5 cb bm t' r' W' g) : Own5 cb bm t r W g ∨ W.heap.size ≤ g := by
  have hcl := h.lt (g := cb) (.inl rfl)
  have hbl := h.lt (g := bm) (.inr (.inl rfl))
  have nw : ∀ {o o' : Option Nat}, Nw W o o' → o' = some g → o = some g ∨ W.heap.size ≤ g := fun {o o'} hn e => by
    rcases hn with e2 | ⟨q, e2, hq⟩
    · exact .inl (e2 ▸ e)
    · rw [e2] at e; injection e with e; exact .inr (by omega)
  rcases hg with e | e | e | e | e | e
  · exact .inl (.inl e)
  · exact .inl (.inr (.inl e))
  · exact (nw ht e).imp (fun h => .inr (.inr (.inl h))) (fun h => h)
  · exact (nw hr e).imp (fun h => .inr (.inr (.inr (.inl h)))) (fun h => h)
  · exact (nw (hF.vb hcl) e).imp (fun h => .inr (.inr (.inr (.inr (.inl h))))) (fun h => h)
  · exact (hF.mp hbl g e).imp (fun h => .inr (.inr (.inr (.inr (.inr h))))) (fun h => h)
/-- What the checker does not own is not turned. -/
theorem Fp.other (h : Ck n0 cb bm t r k W C last dn) (hF : Fp n0 cb bm t r W W') {g : Nat} (hg : ¬ Own5 cb bm t r W g) (hl : g < W.heap.size) : W'.heap[g]? = W.heap[g]? :=
  hF.fine (h.lt (g := cb) (.inl rfl)) g hl (fun e => hg (.inl e)) (fun e => hg (.inr (.inl e))) (fun e => hg (.inr (.inr (.inl e.symm)))) (fun e => hg (.inr (.inr (.inr (.inl e.symm))))) (fun e => hg (.inr (.inr (.inr (.inr (.inl e.symm))))))
end
/-- Where a checker lies. -/
structure Loc where
  n : Nat
  cb : Nat
  bm : Nat
  t : Option Nat
  r : Option Nat
  k : Nat
abbrev Loc.own (A : Loc) (W : World) (g : Nat) : Prop := Own5 A.cb A.bm A.t A.r W g
abbrev Loc.ck (A : Loc) (W : World) (S : Ckr.St) : Prop := Ck A.n A.cb A.bm A.t A.r A.k W S.C S.last S.dn
/-- Two checkers, apart. -/
structure Two (A B : Loc) (SA SB : Ckr.St) (W : World) : Prop where
  a : A.ck W SA
  b : B.ck W SB
  ap : ∀ g, A.own W g → ¬ B.own W g
theorem Two.symm {A B : Loc} {SA SB : Ckr.St} {W : World} (h : Two A B SA SB W) : Two B A SB SA W := ⟨h.b, h.a, fun g hg h' => h.ap g h' hg⟩
theorem Loc.below {A : Loc} {S : Ckr.St} {W W' : World} (h : A.ck W S) (hb : Below W.heap.size W W') : A.ck W' S ∧ ∀ g, A.own W' g → A.own W g :=
  Ck.stay h hb.size (fun g hg => hb.block g (Ck.lt h hg))
theorem Two.below {A B : Loc} {SA SB : Ckr.St} {W W' : World} (h : Two A B SA SB W) (hb : Below W.heap.size W W') : Two A B SA SB W' := by
  obtain ⟨a1, a2⟩ := Loc.below h.a hb
  obtain ⟨b1, b2⟩ := Loc.below h.b hb
  exact ⟨a1, b1, fun g hg hg2 => h.ap g (a2 g hg) (b2 g hg2)⟩
/-- What the first one's step leaves. -/
def TwoOut (A B : Loc) (d : Int × Ckr.St) (SB : Ckr.St) (W : World) (e : Ending) (W' : World) : Prop :=
  e = .returned (.int .i64 d.1) ∧ ∃ A' : Loc, A'.n = A.n ∧ A'.cb = A.cb ∧ A'.k ≤ A.k + 1 ∧ Two A' B d.2 SB W' ∧ (∀ g, g < W.heap.size → ¬ A.own W g → W'.heap[g]? = W.heap[g]?) ∧ W.heap.size ≤ W'.heap.size ∧ W'.os = W.os ∧ W'.tape = W.tape ∧ W'.output = W.output
theorem Two.step {A B : Loc} {SA SB : Ckr.St} {W : World} (h : Two A B SA SB W) (hk : A.k < maxLen) {s : Lra.Stp} {a1 a2 : Option Addr} {c1 c2 : Nat} (hs : ArgS A.n A.cb A.bm A.t A.r W a1 a2 c2 s) :
    Calls Try.prog 16 #[.pointer (some ⟨A.cb, 0, none⟩), sval s a1 c1 a2 c2] W fun e W' => TwoOut A B (Ckr.stepP SA s) SB W e W' := by
  refine (step16 A.n A.cb A.bm A.t A.r A.k W SA s a1 c1 a2 c2 h.a hk hs).mono ?_
  rintro e W' ⟨he, t', r', k', hk', hC, hF, ht, hr⟩
  obtain ⟨b1, b2⟩ := Ck.stay h.b hF.size (fun g hg => Fp.other h.a hF (fun ho => h.ap g ho hg) (Ck.lt h.b hg))
  refine ⟨he, ⟨A.n, A.cb, A.bm, t', r', k'⟩, rfl, rfl, hk', ⟨hC, b1, fun g hg hg2 => ?_⟩, fun g hl hg => Fp.other h.a hF hg hl, hF.size, hF.os, hF.tape, hF.output⟩
  have hB := b2 g hg2
  rcases Fp.own h.a hF ht hr hg with h' | h'
  · exact h.ap g h' hB
  · have := Ck.lt h.b hB
    omega
end Go.Proofs.Ytjjanmgeogjngaa

/- The clauses that stand, as a formula of ten variables: the call. -/
namespace Go.Proofs.Ytjjanmgeogjngaa
open Go.RowKit Go.Maps
set_option linter.unusedVariables false

theorem info39 : (Try.prog.info? 39).map (fun i => (i.zero, i.size, i.bytes)) = some (some (.slice none 0 0), 1, 24) := by kernel_rfl
/-- Clauses in a row of one's own, each in a row of its own. -/
structure Cm (n : Nat) (W : World) (v : Value) (xs : List (List Int)) (vs : List Value) : Prop where
  len : vs.length = xs.length
  row : W.ownsRow n 39 1 v xs.length vs
  each : ∀ i, i < xs.length → W.ownsRow n 40 1 (vs.getD i undef) (xs.getD i []).length ((xs.getD i []).map (Value.int .i32))
theorem Cm.nil (n : Nat) (W : World) : Cm n W (.slice none 0 0) [] [] := ⟨rfl, World.ownsRow_nil _ _ _ _, fun i hi => by simp at hi⟩
theorem Cm.keep {n : Nat} {W W' : World} {v : Value} {xs : List (List Int)} {vs : List Value} (h : Cm n W v xs vs) (hk : ∀ (g : Nat) (cs : Array Value) (ty : TypeId), (ty = 39 ∨ ty = 40) → W.heap[g]? = some (.cells cs ty (0, 0)) → W'.heap[g]? = W.heap[g]?) : Cm n W' v xs vs :=
  ⟨h.len, own_keep h.row (fun g cs _ hg => hk g cs _ (.inl rfl) hg), fun i hi => own_keep (h.each i hi) (fun g cs _ hg => hk g cs _ (.inr rfl) hg)⟩
theorem Cm.below {n : Nat} {W W' : World} {v : Value} {xs : List (List Int)} {vs : List Value} (h : Cm n W v xs vs) (hb : Below W.heap.size W W') : Cm n W' v xs vs := h.keep (fun g cs ty _ hg => hb.block g (Array.getElem?_eq_some_iff.1 hg).1)
theorem Cm.cls {n : Nat} {W : World} {v : Value} {xs : List (List Int)} {vs : List Value} (h : Cm n W v xs vs) (hl : ∀ c ∈ xs, c.length ≤ 16777216 ∧ ∀ x ∈ c, -2147483648 ≤ x ∧ x ≤ 2147483647) : ∃ a c, v = .slice a xs.length c ∧ Cls W a xs := by
  obtain ⟨a, c, rfl⟩ := own_slc h.row
  refine ⟨a, c, rfl, fun c hc => by have := (hl c hc).1; omega, ?_⟩
  rcases h.row.2 with ⟨_, h0⟩ | ⟨g, cap, cur, e1, hb, hg, hnc, hcm, hcs, htk⟩
  · exact .inl (List.eq_nil_of_length_eq_zero h0)
  · cases e1
    refine .inr ⟨g, 0, rfl, (Array.getElem?_eq_some_iff.1 hg).1, fun j hj => ?_⟩
    have he := h.each j hj
    obtain ⟨a', c', e⟩ := own_slc he
    refine ⟨a', c', ?_, own_row (e ▸ he) (hl _ (Cnf.getD_cls xs j hj)).2⟩
    rw [Nat.zero_add, row_cell hg j, ← e]
    have e2 : (cur.toList.take (xs.length * 1))[j]? = cur.toList[j]? := List.getElem?_take_of_lt (by omega)
    rw [htk] at e2
    rw [← Array.getElem?_toList, ← e2]
    have hjv : j < vs.length := by rw [h.len]; exact hj
    simp [List.getD, List.getElem?_eq_getElem hjv]
/-- A clause more. -/
theorem Cm.push {n : Nat} {W : World} {v : Value} {xs : List (List Int)} {vs : List Value} (h : Cm n W v xs vs) (c : List Int) (u : Value) (hu : W.ownsRow n 40 1 u c.length (c.map (Value.int .i32))) (hl : xs.length ≤ 1048576) (hb : n ≤ W.heap.size) :
    ∃ a k B, (Builtin.append_ #[22, 22] 22 #[v, .slice (some ⟨W.heap.size, 0, none⟩) 1 1]).run Try.prog (W.alloc (.cells #[u] 39)) = .ok (.slice a (xs.length + 1) k) B ∧ Cm n B (.slice a (xs.length + 1) k) (xs ++ [c]) (vs ++ [u]) ∧
      (∀ g, g < W.heap.size → v.ownBlock ≠ some g → B.heap[g]? = W.heap[g]?) ∧ W.heap.size ≤ B.heap.size ∧ B.os = W.os ∧ B.tape = W.tape ∧ B.output = W.output := by
  obtain ⟨i0, hi, hz⟩ := Option.map_eq_some_iff.1 info39
  simp only [Prod.mk.injEq] at hz
  have h01 := below_box W (.cells #[u] 39)
  have hM := heap_alloc_new W (.cells #[u] 39)
  have hs1 : (W.alloc (.cells #[u] 39)).heap.size = W.heap.size + 1 := by simp
  generalize W.alloc (.cells #[u] 39) = W1 at h01 hM hs1
  obtain ⟨v2, B, hr, ho2, hg, _, hat⟩ := run_append_own_at (P := Try.prog) W1 n 22 22 39 i0 _ 1 24 Try.underlying22 hi hz.1 hz.2.1 hz.2.2 rfl (by decide) v xs.length vs (own_below h.row h01) ⟨W.heap.size, 0, none⟩ 1 1 [u] rfl (fun j w hw => by
    match j, hw with
    | 0, hw => rw [show (⟨W.heap.size, 0, none⟩ : Addr).add 0 = ⟨W.heap.size, 0, none⟩ from rfl, row_cell hM 0]; exact hw
    | j + 1, hw => simp at hw) (by intro w hw; simp at hw; subst hw; exact own_one hu) (by simp [maxLen]; omega) (by omega) (by omega)
  obtain ⟨a, k, rfl⟩ := own_slc ho2
  have keep : ∀ g, g < W.heap.size → v.ownBlock ≠ some g → B.heap[g]? = W.heap[g]? := fun g hgl hne => (hg.block g (by omega) (fun e => hne e.symm)).trans (h01.block g hgl)
  have keep40 : ∀ (g : Nat) (cs : Array Value), W.heap[g]? = some (.cells cs 40 (0, 0)) → B.heap[g]? = W.heap[g]? := fun g cs hgc => keep g (Array.getElem?_eq_some_iff.1 hgc).1 (own_ne hgc h.row (by decide))
  refine ⟨a, k, B, hr, ⟨by simp [h.len], by simpa using ho2, fun i hi => ?_⟩, keep, by have := hg.size; omega, hg.os.trans h01.os, hg.tape.trans h01.tape, hg.output.trans h01.output⟩
  rcases Nat.lt_or_ge i xs.length with h1 | h1
  · have e1 : (xs ++ [c]).getD i [] = xs.getD i [] := by simp [List.getD, List.getElem?_append_left h1]
    have e2 : (vs ++ [u]).getD i undef = vs.getD i undef := by simp [List.getD, List.getElem?_append_left (show i < vs.length by rw [h.len]; exact h1)]
    rw [e1, e2]
    exact own_keep (h.each i h1) (fun g cs _ hgc => keep40 g cs hgc)
  · obtain rfl : i = xs.length := by simp at hi; omega
    have e1 : (xs ++ [c]).getD xs.length [] = c := by simp [List.getD]
    have e2 : (vs ++ [u]).getD xs.length undef = u := by rw [← h.len]; simp [List.getD]
    rw [e1, e2]
    exact own_keep hu (fun g cs _ hgc => keep40 g cs hgc)
def StandsOut (w : World) (cs : List (List Int)) (e : Ending) (w' : World) : Prop := ∃ a c vs, e = .returned (.agg #[.int .i64 10, .slice a cs.length c]) ∧ Cm w.heap.size w' (.slice a cs.length c) cs vs ∧ Below w.heap.size w w'

set_option maxRecDepth 100000 in
set_option maxHeartbeats 4000000 in
theorem stands25 {n0 cb bm : Nat} {t r : Option Nat} {k : Nat} {w : World} {C : List (Int × List Int)} {last : Int} {dn : Bool} (hC : Ck n0 cb bm t r k w C last dn) (hk : k ≤ 1048576) (hcl : C.length ≤ 1048576) :
    Calls Try.prog 25 #[.pointer (some ⟨cb, 0, none⟩)] w fun e w' => StandsOut w (C.map (·.2)) e w' := by
  have HC := hid hC
  obtain ⟨n, hn⟩ : ∃ n, C.length = n := ⟨_, rfl⟩
  have HN := hid hn
  rw [hn] at hcl
  clear hC hn
  go_enter Try.func25, Try.ntmps25
  go_wp2_with fail
  have hB := (below_box w (.cells #[.int .i64 0, .slice none 0 0] 24)).trans ((below_box (w.alloc (.cells #[.int .i64 0, .slice none 0 0] 24)) (.cells #[.int .i64 10, .slice none 0 0] 24)).mono (by simp))
  have hr0 : ((w.alloc (.cells #[.int .i64 0, .slice none 0 0] 24)).alloc (.cells #[.int .i64 10, .slice none 0 0] 24)).heap[w.heap.size]? = some (.cells #[.int .i64 0, .slice none 0 0] 24 (0, 0)) := by simp only [alloc_at, World.size_alloc]; rw [if_neg (by omega), if_pos trivial]
  have hf0 : ((w.alloc (.cells #[.int .i64 0, .slice none 0 0] 24)).alloc (.cells #[.int .i64 10, .slice none 0 0] 24)).heap[w.heap.size + 1]? = some (.cells #[.int .i64 10, .slice none 0 0] 24 (0, 0)) := by simp only [alloc_at, World.size_alloc]; rw [if_pos trivial]
  generalize (w.alloc (.cells #[.int .i64 0, .slice none 0 0] 24)).alloc (.cells #[.int .i64 10, .slice none 0 0] 24) = W0 at *
  have C35 := hid ((HC.out.below hB).live hk)
  unfold KeysOut at C35
  rw [List.length_map, HN.out] at C35
  have HB := hid hB
  have HR0 := hid hr0
  have HF0 := hid hf0
  clear hB hr0 hf0
  go_at_call 35
  refine C35.out.mono ?_
  clear C35
  rintro e W2 ⟨ai, ci, rfl, hoi, hB2⟩
  have HIds := hid (own_base (base' := w.heap.size) hoi HB.out.size)
  have HIB := hid (fun x (hx : x ∈ C.map (·.1)) => show -9223372036854775808 ≤ x ∧ x ≤ 9223372036854775807 by
    obtain ⟨p, hp, rfl⟩ := List.mem_map.1 hx
    have := HC.out.good.ids p hp
    have := HC.out.good.last_
    omega)
  have HB2 := hid (HB.out.trans (hB2.mono HB.out.size))
  have hz1 : w.heap.size + 1 < W0.heap.size := (Array.getElem?_eq_some_iff.1 HF0.out).1
  have HR2 : Hid (W2.heap[w.heap.size]? = some (.cells #[.int .i64 0, .slice none 0 0] 24 (0, 0))) := (hB2.block _ (by omega)).trans HR0.out
  have HF2 : Hid (W2.heap[w.heap.size + 1]? = some (.cells #[.int .i64 10, .slice none 0 0] 24 (0, 0))) := (hB2.block _ (by omega)).trans HF0.out
  have HS2 := hid hB2.size
  clear hB2 hoi HR0 HF0 HB
  go_wp2
  go_loopw [5] (fun i wr => ∃ (q : Nat) (v : Value) (vs : List Value), i = .int .i64 q ∧ q ≤ n ∧ Hid (Below w.heap.size w wr) ∧ Hid (wr.heap[w.heap.size + 1]? = some (.cells #[.int .i64 10, v] 24 (0, 0)) ∧ wr.heap[w.heap.size]? = some (.cells #[.int .i64 0, .slice none 0 0] 24 (0, 0))) ∧ Hid (Cm w.heap.size wr v ((C.map (·.2)).take q) vs) ∧ Hid (wr.ownsRow w.heap.size 2 1 (.slice ai n ci) n ((C.map (·.1)).map (Value.int .i64)))) (fun i _ => n - (intOf i).toNat)
  case atStart => exact ⟨0, .slice none 0 0, [], rfl, Nat.zero_le _, HB2, hid ⟨HF2.out, HR2.out⟩, hid (Cm.nil _ _), HIds⟩
  case round =>
    obtain ⟨q, v, vs, rfl, hq, HBe, HFr, HCm, HH⟩ := hrel
    by_cases hlt : q < n
    · have hlt' : (q : Int) < n := by omega
      have hql : q < (C.map (·.1)).length := by rw [List.length_map, HN.out]; exact hlt
      have hqc : q < C.length := by rw [HN.out]; exact hlt
      have hHn : Hnts wr ai (C.map (·.1)) := own_row (by rw [List.length_map, HN.out]; exact HH.out) HIB.out
      obtain ⟨bi, oi, rfl, _, hci, hi1, hi2⟩ := Row.at hHn (j := q) hql
      have hget : (C.map (·.1)).getD q 0 = C[q].1 := by simp [List.getD, hqc]
      have hlook : Ckr.look C C[q].1 = some C[q].2 := Ckr.look_of_mem HC.out.good.sorted (List.getElem_mem hqc)
      have C37 := hid ((HC.out.below HBe.out).get ((C.map (·.1)).getD q 0) ⟨hi1, hi2⟩)
      rw [hget] at hci C37
      rw [hlook] at C37
      have HTk := hid (show (C.map (·.2)).take (q + 1) = (C.map (·.2)).take q ++ [C[q].2] by rw [List.take_succ_eq_append_getElem (by simpa using hqc)]; simp)
      unfold GetOut at C37
      simp only [Option.getD_some, Option.isSome_some] at C37
      have hlenT : ((C.map (·.2)).take q).length = q := by simp; omega
      have HLT := hid hlenT
      generalize C[q].1 = id at hci C37
      generalize C[q].2 = xs at C37 HTk
      clear hlook hget hlenT
      go_wp2_with fail
      go_at_call 37
      refine C37.out.mono ?_
      clear C37
      rintro e W5 ⟨a5, c5, rfl, ho5, hB5⟩
      have hB15 := HBe.out.trans (hB5.mono HBe.out.size)
      have hf5 : W5.heap[w.heap.size + 1]? = some (.cells #[.int .i64 10, v] 24 (0, 0)) := (hB5.block _ (Array.getElem?_eq_some_iff.1 HFr.out.1).1).trans HFr.out.1
      have hr5 : W5.heap[w.heap.size]? = some (.cells #[.int .i64 0, .slice none 0 0] 24 (0, 0)) := (hB5.block _ (Array.getElem?_eq_some_iff.1 HFr.out.2).1).trans HFr.out.2
      have y5 : W5.cell? ⟨w.heap.size + 1, 1, none⟩ = some v := row_cell hf5 1
      obtain ⟨a6, k6, W6, hrun, hCm6, hkeep, hsz6, hos6, htp6, hou6⟩ := (HCm.out.below hB5).push xs _ (own_base ho5 HBe.out.size) (by rw [HLT.out]; omega) hB15.size
      rw [HLT.out] at hrun hCm6
      have RUN := hid hrun
      have hvo : v.ownBlock ≠ some (w.heap.size + 1) := own_ne hf5 (HCm.out.below hB5).row (by decide)
      have hvo2 : v.ownBlock ≠ some w.heap.size := own_ne hr5 (HCm.out.below hB5).row (by decide)
      have hf6 : W6.heap[w.heap.size + 1]? = some (.cells #[.int .i64 10, v] 24 (0, 0)) := (hkeep _ (Array.getElem?_eq_some_iff.1 hf5).1 hvo).trans hf5
      have hr6 : W6.heap[w.heap.size]? = some (.cells #[.int .i64 0, .slice none 0 0] 24 (0, 0)) := (hkeep _ (Array.getElem?_eq_some_iff.1 hr5).1 hvo2).trans hr5
      have y6 : W6.cell? ⟨w.heap.size + 1, 1, none⟩ = some v := row_cell hf6 1
      have f6 := row_frozen hf6 1
      have HX := hid (And.intro hB15 (And.intro hf6 (And.intro hr6 (And.intro hCm6 (And.intro hkeep (And.intro hsz6 (And.intro hos6 (And.intro htp6 hou6))))))))
      have HV5 := hid (And.intro (HCm.out.below hB5).row (own_below HH.out hB5))
      clear hrun hCm6 hkeep hsz6 hos6 htp6 hou6 hf5 hr5 hf6 hr6 hvo hvo2 ho5 hB5 hB15
      go_wp2_with (at_builtin; refine wpList_append_run rfl (.tmp 27) (.tmp 29) 22 22 rfl rfl rfl RUN.out ?_)
      go_roundw
      case rel =>
        obtain ⟨hB15, hf6, hr6, hCm6, hkeep, hsz6, hos6, htp6, hou6⟩ := HX.out
        have hne : ∀ (g : Nat) (cs : Array Value) (ty : TypeId), ty ≠ 24 → W6.heap[g]? = some (.cells cs ty (0, 0)) → g ≠ w.heap.size + 1 := by
          rintro g cs ty ht hg rfl; rw [hf6] at hg; injection hg with e1; injection e1 with _ e2; exact ht e2.symm
        refine ⟨q + 1, .slice a6 (q + 1) k6, _, by go_num, by omega, hid ?_, hid ⟨heap_set_row hf6 _, (heap_other _ _ (by omega)).trans hr6⟩, hid (by rw [HTk.out]; exact hCm6.keep (fun g cs ty ht hg => heap_other _ _ (hne g cs ty (by rcases ht with rfl | rfl <;> decide) hg))), hid ?_⟩
        · refine ⟨hos6.trans hB15.os, htp6.trans hB15.tape, hou6.trans hB15.output, by simp; have := hB15.size; omega, fun g hg => ?_⟩
          rw [heap_other _ _ (by omega), hkeep g (by have := hB15.size; omega) (fun e => by have := (HV5.out.1.lt g e).1; omega)]
          exact hB15.block g hg
        · refine own_keep HV5.out.2 (fun g cs hg hgc => ?_)
          have e6 := hkeep g (Array.getElem?_eq_some_iff.1 hgc).1 (own_ne hgc HV5.out.1 (by decide))
          rw [heap_other _ _ (hne g cs _ (by decide) (e6.trans hgc)), e6]
      case measure => simp [intOf]; omega
    · have hge : ¬ (q : Int) < n := by omega
      obtain ⟨hfb, hrb⟩ := HFr.out
      have y0 : wr.cell? ⟨w.heap.size + 1, 0, none⟩ = some (.int .i64 10) := row_cell hfb 0
      have y1 : wr.cell? ⟨w.heap.size + 1, 1, none⟩ = some v := row_cell hfb 1
      have z0 : wr.cell? ⟨w.heap.size, 0, none⟩ = some (.int .i64 0) := row_cell hrb 0
      have z1 : wr.cell? ⟨w.heap.size, 1, none⟩ = some (.slice none 0 0) := row_cell hrb 1
      have f0 := row_frozen hrb 0
      have f1 := row_frozen hrb 1
      have HRB := hid hrb
      have HCl : Hid (Cm w.heap.size wr v (C.map (·.2)) vs) := by
        have h := HCm.out
        rw [List.take_of_length_le (by rw [List.length_map, HN.out]; omega)] at h
        exact h
      obtain ⟨av, cv, rfl, hcls⟩ := HCl.out.cls (fun c hc => by
        obtain ⟨p, hp, rfl⟩ := List.mem_map.1 hc
        refine ⟨by have := Ckr.len_all hp; have := HC.out.good.few; omega, fun x hx => ?_⟩
        have := HC.out.good.lits x (Ckr.mem_all hp x hx)
        omega)
      have HOut : Hid (∀ e, e = .returned (.agg #[.int .i64 10, .slice av (C.map (·.2)).length cv]) → StandsOut w (C.map (·.2)) e ((wr.setCell ⟨w.heap.size, 0, none⟩ (.int .i64 10)).setCell ⟨w.heap.size, 1, none⟩ (.slice av (C.map (·.2)).length cv))) := by
        intro e he
        refine ⟨av, cv, vs, he, ?_, ?_⟩
        · have hne : ∀ (g : Nat) (cs : Array Value) (ty : TypeId), ty ≠ 24 → wr.heap[g]? = some (.cells cs ty (0, 0)) → g ≠ w.heap.size := by
            rintro g cs ty ht hg rfl; rw [hrb] at hg; injection hg with e1; injection e1 with _ e2; exact ht e2.symm
          exact HCl.out.keep (W' := (wr.setCell ⟨w.heap.size, 0, none⟩ (.int .i64 10)).setCell ⟨w.heap.size, 1, none⟩ (.slice av (C.map (·.2)).length cv)) (fun g cs ty ht hg => by
            have := hne g cs ty (by rcases ht with rfl | rfl <;> decide) hg
            rw [heap_other _ _ this, heap_other _ _ this])
        · exact (HBe.out.setCell (p := ⟨w.heap.size, 0, none⟩) (Nat.le_refl _) _).setCell (p := ⟨w.heap.size, 1, none⟩) (Nat.le_refl _) _
      generalize (C.map (·.2)).length = nc at *
      clear hfb hrb hcls
      go_wp2
      refine bodyPost_ret (results_cell_row rfl _ _ w.heap.size 24 _ (0, 0) _ rfl (heap_set_row (heap_set_row HRB.out _) _) Try.underlying24 rfl (by kernel_rfl)) rfl ?_
      exact HOut.out _ rfl
end Go.Proofs.Ytjjanmgeogjngaa

/- doubled: a clause with its literals once more behind. -/
namespace Go.Proofs.Ytjjanmgeogjngaa
open Go.RowKit Go.Maps
set_option linter.unusedVariables false
set_option maxRecDepth 100000
def DouOut (w : World) (xs : List Int) (n : Nat) (e : Ending) (w' : World) : Prop :=
  ∃ o k, e = .returned (.slice o (n + n) k) ∧ w'.ownsRow w.heap.size 40 1 (.slice o (n + n) k) (n + n) ((xs ++ xs).map (Value.int .i32)) ∧ Below w.heap.size w w'
theorem appD {W : World} {base n : Nat} {v : Value} {xs ys : List Int} (h : W.ownsRow base 40 1 v n (xs.map (Value.int .i32))) (hb : base ≤ W.heap.size) {b off m c : Nat} (hl : ys.length = m) (hc : ∀ j, j < m → W.cell? ⟨b, off + j, none⟩ = some (.int .i32 (ys.getD j 0))) (hk : n + m ≤ 33554432) :
    ∃ o' c' B, (Builtin.append_ #[39, 39] 39 #[v, .slice (some ⟨b, off, none⟩) m c]).run Try.prog W = .ok (.slice o' (n + m) c') B ∧ B.ownsRow base 40 1 (.slice o' (n + m) c') (n + m) ((xs ++ ys).map (Value.int .i32)) ∧ Below base W B := by
  obtain ⟨i0, hi0, hz⟩ := Option.map_eq_some_iff.1 info44
  simp only [Prod.mk.injEq] at hz
  obtain ⟨v', X, hr, h2, h3, _, _⟩ := run_append_own_at (P := Try.prog) W base 39 39 40 i0 (.int .i32 0) 1 4 Try.underlying39 hi0 hz.1 hz.2.1 hz.2.2 rfl (by decide) v n _ h ⟨b, off, none⟩ m c (ys.map (Value.int .i32)) (by simp [hl]) (fun j u hu => by
    have hj : j < m := by
      rcases Nat.lt_or_ge j m with h' | h'
      · exact h'
      · rw [List.getElem?_eq_none (by simp [hl]; omega)] at hu; cases hu
    rw [show (⟨b, off, none⟩ : Addr).add j = ⟨b, off + j, none⟩ from Go.WideShapes.add_plain _ _ _, hc j hj, ← hu, List.getElem?_map, List.getElem?_eq_getElem (by omega), List.getD_eq_getElem?_getD, List.getElem?_eq_getElem (by omega)]; rfl) (by
    intro u hu
    obtain ⟨x, _, rfl⟩ := List.mem_map.1 hu
    rfl) (by unfold maxLen; omega) (by omega) hb
  obtain ⟨o', c', rfl⟩ := own_slc h2
  refine ⟨o', c', X, hr, by rw [List.map_append]; exact h2, ⟨h3.os, h3.tape, h3.output, h3.size, fun q hq => h3.block q (by omega) (fun e => ?_)⟩⟩
  have := (own_blk h e.symm).1
  omega
set_option maxHeartbeats 4000000 in
theorem doubled34 (a : Option Addr) (n c : Nat) (xs : List Int) (w : World) (hn : xs.length = n) (hb : n ≤ 16777216) (hx : Lits w a xs) :
    Calls Try.prog 34 #[.slice a n c] w fun e w' => DouOut w xs n e w' := by
  rcases Nat.eq_zero_or_pos n with h0 | h0
  · subst h0
    have hx0 : xs = [] := List.eq_nil_of_length_eq_zero hn
    subst hx0
    have HF : Hid (DouOut w [] 0 (.returned (.slice none 0 0)) w) := ⟨none, 0, rfl, World.ownsRow_nil _ _ _ _, Below.refl _ _⟩
    have HR : Hid (∀ W : World, (Builtin.append_ #[39, 39] 39 #[.slice none 0 0, .slice a 0 c]).run Try.prog W = .ok (.slice none 0 0) W) := fun W => by cases a <;> kernel_rfl
    clear hx hn hb
    go_enter Try.func34, Try.ntmps34
    go_wp2_with (first
      | (at_builtin; refine wpList_append_run rfl (.tmp 4) (.tmp 5) 39 39 rfl rfl rfl (HR.out _) ?_)
      | (at_builtin; refine wpList_append_run rfl (.tmp 7) (.tmp 8) 39 39 rfl rfl rfl (HR.out _) ?_))
    go_ret
    exact HF.out
  · obtain ⟨b, off, rfl, hl, hc⟩ : ∃ b off, a = some ⟨b, off, none⟩ ∧ b < w.heap.size ∧ ∀ j, j < xs.length → w.cell? ⟨b, off + j, none⟩ = some (.int .i32 (xs.getD j 0)) := by
      rcases hx.2 with h | h
      · rw [h] at hn; simp at hn; omega
      · exact h
    rw [hn] at hc
    obtain ⟨o1, k1, X, r1, w1, b1⟩ := appD (n := 0) (m := n) (xs := []) (ys := xs) (v := .slice none 0 0) (World.ownsRow_nil w w.heap.size 40 1 : w.ownsRow w.heap.size 40 1 (.slice none 0 0) 0 (([] : List Int).map (Value.int .i32))) (Nat.le_refl _) (c := c) hn hc (by omega)
    rw [Nat.zero_add] at r1 w1
    obtain ⟨o2, k2, Y, r2, w2, b2⟩ := appD (n := n) (m := n) (ys := xs) w1 b1.size (c := c) hn (fun j hj => (b1.cell (p := ⟨b, off + j, none⟩) hl).trans (hc j hj)) (by omega)
    rw [List.nil_append] at w2
    have HR1 := hid r1
    have HR2 := hid r2
    have HF := hid (show DouOut w xs n (.returned (.slice o2 (n + n) k2)) Y from ⟨o2, k2, rfl, w2, b1.trans b2⟩)
    clear hx hn hb hl hc r1 w1 b1 r2 w2 b2 h0
    go_enter Try.func34, Try.ntmps34
    go_wp2_with (first
      | (at_builtin; refine wpList_append_run rfl (.tmp 4) (.tmp 5) 39 39 rfl rfl rfl HR1.out ?_; clear HR1)
      | (at_builtin; refine wpList_append_run rfl (.tmp 7) (.tmp 8) 39 39 rfl rfl rfl HR2.out ?_; clear HR2))
    go_ret
    exact HF.out
end Go.Proofs.Ytjjanmgeogjngaa

/- Two checkers, one of a formula with its clauses doubled: what the law's walk meets. -/
namespace Cnf
theorem scan_small (vars : Int) : ∀ (ls : List Int) (c : Nat), c + ls.length ≤ 16777216 → scan vars c ls = if ls.all (fun l => !(decide (vr l < 1) || decide (vars < vr l))) then 0 else 4 := by
  intro ls
  induction ls with
  | nil => intro c _; rfl
  | cons l ls ih =>
    intro c h
    rw [List.length_cons] at h
    by_cases h2 : vr l < 1 ∨ vars < vr l
    · rw [scan_lit vars c l ls (by omega) h2]
      have : (l :: ls).all (fun l => !(decide (vr l < 1) || decide (vars < vr l))) = false := by
        rw [List.all_cons]
        rcases h2 with h2 | h2 <;> simp [h2]
      rw [this]; rfl
    · rw [scan_on vars c l ls (by omega) h2, ih (c + 1) (by omega), List.all_cons]
      have e1 : ¬ vr l < 1 := fun e => h2 (.inl e)
      have e2 : ¬ vars < vr l := fun e => h2 (.inr e)
      rw [decide_eq_false e1, decide_eq_false e2]
      simp only [Bool.or_false, Bool.not_false, Bool.true_and]
theorem flat_dd (cs : List (List Int)) : (cs.map (fun c => c ++ c)).flatten.length = 2 * cs.flatten.length := by
  induction cs with
  | nil => rfl
  | cons c cs ih => simp only [List.map_cons, List.flatten_cons, List.length_append, ih]; omega
theorem all_dd (p : Int → Bool) (cs : List (List Int)) : (cs.map (fun c => c ++ c)).flatten.all p = cs.flatten.all p := by
  induction cs with
  | nil => rfl
  | cons c cs ih =>
    simp only [List.map_cons, List.flatten_cons, List.all_append, ih]
    cases c.all p <;> rfl
theorem right_dd (vars : Int) (cs : List (List Int)) (h : cs.flatten.length ≤ 4194304) : right vars (cs.map (fun c => c ++ c)) = right vars cs := by
  unfold right
  rw [List.length_map, scan_small _ _ 0 (by rw [flat_dd]; omega), scan_small _ _ 0 (by omega), all_dd]
end Cnf
namespace Ckr
theorem drop1_len (C : List (Int × List Int)) (i : Int) : (all (drop1 C i)).length ≤ (all C).length := by
  unfold all drop1
  induction C with
  | nil => exact Nat.le_refl _
  | cons p C ih =>
    by_cases h : p.1 != i
    · rw [List.filter_cons_of_pos (p := fun p : Int × List Int => p.1 != i) h]; simp only [List.flatMap_cons, List.length_append]; omega
    · rw [List.filter_cons_of_neg (p := fun p : Int × List Int => p.1 != i) h]; simp only [List.flatMap_cons, List.length_append]; omega
theorem dropL_len (ids : List Int) : ∀ C, (all (dropL C ids)).length ≤ (all C).length := by
  induction ids with
  | nil => intro C; exact Nat.le_refl _
  | cons i ids ih => intro C; exact Nat.le_trans (ih (drop1 C i)) (drop1_len C i)
theorem step_len (S : St) (s : Lra.Stp) : (all (stepP S s).2.C).length ≤ (all S.C).length + s.lits.length := by
  unfold stepP
  split
  · split
    · unfold remS
      split
      · exact Nat.le_trans (dropL_len _ _) (Nat.le_add_right _ _)
      · exact Nat.le_add_right _ _
    · unfold addS
      show (all (if addE S.C S.last s = 0 then (⟨S.C ++ [(s.id, s.lits)], s.id, S.dn || s.lits.isEmpty⟩ : St) else S).C).length ≤ _
      split
      · show (all (S.C ++ [(s.id, s.lits)])).length ≤ _
        rw [all_snoc, List.length_append]
        exact Nat.le_refl _
      · exact Nat.le_add_right _ _
  · exact Nat.le_add_right _ _
theorem lit_nz : ∀ x, Lra.literal x = true → x ≠ 0 := by
  intro x h
  unfold Lra.literal at h
  simp only [Bool.and_eq_true, bne_iff_ne] at h
  exact h.1
end Ckr
namespace Go.Proofs.Ytjjanmgeogjngaa
open Go.RowKit Go.Maps
set_option linter.unusedVariables false
theorem Ck.low {n0 n1 cb bm : Nat} {t r : Option Nat} {k : Nat} {W : World} {C : List (Int × List Int)} {last : Int} {dn : Bool} (h : Ck n0 cb bm t r k W C last dn) (hn : n1 ≤ n0) : Ck n1 cb bm t r k W C last dn := by
  obtain ⟨f, tm, at3, ct3, ⟨vals, vv, vr, hre, hcb, hsz, hc, hov, hot, hV⟩, hS, ho, ht, hT⟩ := h.mem
  exact ⟨h.good, f, tm, at3, ct3, ⟨vals, vv, vr, hre, by omega, by omega, hc, own_base hov hn, own_base hot hn, hV⟩, ⟨hS.map, by have := hS.base; omega, hS.none_, fun id v hv => by
    obtain ⟨xs, a, b, c⟩ := hS.some_ id v hv
    exact ⟨xs, a, own_base b hn, c⟩⟩, own_base ho hn, ht, hT⟩
/-- What the loop over the steps keeps. -/
structure Lk (w : World) (ca cb : Nat) (i : Nat) (S : Ckr.St) (A B : Loc) (W : World) : Prop where
  two : Two A B S (Ckr.dS S) W
  an : A.n = w.heap.size
  bn : B.n = w.heap.size
  ac : A.cb = ca
  bc : B.cb = cb
  ak : A.k ≤ 200 + i
  bk : B.k ≤ 200 + i
  bel : Below w.heap.size w W
theorem Lk.below {w : World} {ca cb i : Nat} {S : Ckr.St} {A B : Loc} {W W' : World} (h : Lk w ca cb i S A B W) (hb : Below W.heap.size W W') : Lk w ca cb i S A B W' :=
  ⟨h.two.below hb, h.an, h.bn, h.ac, h.bc, h.ak, h.bk, h.bel.trans (hb.mono h.bel.size)⟩
/-- Both are made. -/
theorem Lk.start {w W1 W2 W3 : World} {ca cb bma bmb : Nat} {ta ra tb rb : Option Nat} {cs : List (List Int)} (h1 : Below w.heap.size w W1) (a : Ck W1.heap.size ca bma ta ra cs.length W2 (Ckr.num 1 cs) cs.length (cs.any (fun c => c.isEmpty))) (b1 : Below W1.heap.size W1 W2)
    (b : Ck W2.heap.size cb bmb tb rb (cs.map (fun c => c ++ c)).length W3 (Ckr.num 1 (cs.map (fun c => c ++ c))) (cs.map (fun c => c ++ c)).length ((cs.map (fun c => c ++ c)).any (fun c => c.isEmpty))) (b2 : Below W2.heap.size W2 W3) (hn : cs.length ≤ 200) :
    Lk w ca cb 0 ⟨Ckr.num 1 cs, cs.length, cs.any (fun c => c.isEmpty)⟩ ⟨w.heap.size, ca, bma, ta, ra, cs.length⟩ ⟨w.heap.size, cb, bmb, tb, rb, (cs.map (fun c => c ++ c)).length⟩ W3 := by
  have s1 := h1.size
  have s2 := b1.size
  have e1 : Ckr.num 1 (cs.map (fun c => c ++ c)) = Ckr.dC (Ckr.num 1 cs) := Ckr.num_dbl cs 1
  have e2 : ((cs.map (fun c => c ++ c)).any (fun c => c.isEmpty)) = cs.any (fun c => c.isEmpty) := by
    rw [List.any_map]
    congr 1
    funext c
    cases c <;> rfl
  have hA := Loc.below (A := ⟨W1.heap.size, ca, bma, ta, ra, cs.length⟩) (S := ⟨Ckr.num 1 cs, cs.length, cs.any (fun c => c.isEmpty)⟩) a b2
  refine ⟨⟨Ck.low hA.1 s1, ?_, fun g hg hg2 => ?_⟩, rfl, rfl, rfl, rfl, hn, by show (cs.map _).length ≤ _; rw [List.length_map]; exact hn, h1.trans ((b1.mono s1).trans (b2.mono (by omega)))⟩
  · have b' := Ck.low b (Nat.le_trans s1 s2)
    rw [e1, e2, List.length_map] at b'
    show Ck w.heap.size cb bmb tb rb (cs.map (fun c => c ++ c)).length W3 (Ckr.dC (Ckr.num 1 cs)) cs.length (cs.any (fun c => c.isEmpty))
    rw [List.length_map]
    exact b'
  · have := Ck.lt a (hA.2 g hg)
    have := Ck.lo b hg2
    omega
/-- A step as it was handed in. -/
theorem Lk.argA {w : World} {ca cb i : Nat} {S : Ckr.St} {A B : Loc} {W : World} (h : Lk w ca cb i S A B W) {a1 a2 : Option Addr} {c2 : Nat} {s : Lra.Stp} (hs : StpV w a1 a2 s) (hc : s.hints.length ≤ c2 ∧ c2 ≤ maxLen) (hn : s.lits.length ≤ 16777216 ∧ s.hints.length ≤ 1048576) : ArgS A.n A.cb A.bm A.t A.r W a1 a2 c2 s := by
  have hck : Ck A.n A.cb A.bm A.t A.r A.k W S.C S.last S.dn := h.two.a
  rw [h.an] at hck ⊢
  exact Ck.argS hck hs h.bel hc hn
theorem frame_bel {w W W' : World} {A : Loc} {S : Ckr.St} (hA : A.ck W S) (hn : A.n = w.heap.size) (hb : Below w.heap.size w W) (hk : ∀ g, g < W.heap.size → ¬ A.own W g → W'.heap[g]? = W.heap[g]?) (hs : W.heap.size ≤ W'.heap.size) (h1 : W'.os = W.os) (h2 : W'.tape = W.tape) (h3 : W'.output = W.output) : Below w.heap.size w W' := by
  have hz := hb.size
  refine ⟨h1.trans hb.os, h2.trans hb.tape, h3.trans hb.output, Nat.le_trans hz hs, fun g hg => (hk g (by omega) (fun ho => ?_)).trans (hb.block g hg)⟩
  have := Ck.lo hA ho
  omega
/-- The first one's step is done; the second one's is not yet. -/
structure Mdk (w : World) (ca cb i : Nat) (S : Ckr.St) (d : Int × Ckr.St) (A B : Loc) (W : World) : Prop where
  two : Two A B d.2 (Ckr.dS S) W
  an : A.n = w.heap.size
  bn : B.n = w.heap.size
  ac : A.cb = ca
  bc : B.cb = cb
  ak : A.k ≤ 200 + (i + 1)
  bk : B.k ≤ 200 + i
  bel : Below w.heap.size w W
theorem Lk.stepA {w : World} {ca cb i : Nat} {S : Ckr.St} {A B : Loc} {W X : World} (h : Lk w ca cb i S A B W) (hi : i ≤ 100000) (hX : Below W.heap.size W X) {a1 a2 : Option Addr} {c1 c2 : Nat} {s : Lra.Stp} (hs : ArgS A.n A.cb A.bm A.t A.r X a1 a2 c2 s) :
    Calls Try.prog 16 #[.pointer (some ⟨ca, 0, none⟩), sval s a1 c1 a2 c2] X fun e W' => e = .returned (.int .i64 (Ckr.stepP S s).1) ∧ (∃ A', Mdk w ca cb i S (Ckr.stepP S s) A' B W') ∧ (∀ g, W.heap.size ≤ g → g < X.heap.size → W'.heap[g]? = X.heap[g]?) ∧ X.heap.size ≤ W'.heap.size := by
  have h' := h.below hX
  have hak := h.ak
  have C := h'.two.step (by unfold maxLen; omega) (c1 := c1) hs
  rw [h.ac] at C
  refine C.mono ?_
  rintro e W' ⟨he, A', e1, e2, e3, t, hk, hz, o1, o2, o3⟩
  refine ⟨he, ⟨A', t, e1.trans h.an, h.bn, e2.trans h.ac, h.bc, by omega, h.bk, frame_bel h'.two.a h.an h'.bel hk hz o1 o2 o3⟩, fun g hg hl => hk g hl (fun ho => ?_), hz⟩
  have := Ck.lt h.two.a ((Loc.below h.two.a hX).2 g ho)
  omega
theorem Mdk.stepB {w : World} {ca cb i : Nat} {S : Ckr.St} {A B : Loc} {W : World} {s : Lra.Stp} (h : Mdk w ca cb i S (Ckr.stepP S s) A B W) (hG : Ckr.Good S.C S.last) (hi : i ≤ 100000) (hf : (Ckr.all S.C).length + s.lits.length ≤ 4194304) {a1 a2 : Option Addr} {c1 c2 : Nat} (hs : ArgS B.n B.cb B.bm B.t B.r W a1 a2 c2 (Ckr.dStp s)) :
    Calls Try.prog 16 #[.pointer (some ⟨cb, 0, none⟩), sval (Ckr.dStp s) a1 c1 a2 c2] W fun e W' => e = .returned (.int .i64 (Ckr.stepP S s).1) ∧ ∃ A' B', Lk w ca cb (i + 1) (Ckr.stepP S s).2 A' B' W' := by
  have hbk := h.bk
  have C := h.two.symm.step (by unfold maxLen; omega) (c1 := c1) hs
  rw [h.bc, Ckr.step_dbl S s (fun x hx => (hG.lits x hx).1) Ckr.lit_nz hf] at C
  refine C.mono ?_
  rintro e W' ⟨he, B', e1, e2, e3, t, hk, hz, o1, o2, o3⟩
  exact ⟨he, A, B', t.symm, h.an, e1.trans h.bn, h.ac, e2.trans h.bc, h.ak, by omega, frame_bel h.two.b h.bn h.bel hk hz o1 o2 o3⟩
/-- A step with its literals doubled, in a row that is new. -/
theorem Mdk.argB {w : World} {ca cb i : Nat} {S : Ckr.St} {A A' B : Loc} {W X : World} {d : Int × Ckr.St} (h : Lk w ca cb i S A B W) (h1 : Mdk w ca cb i S d A' B X) {a1 a2 : Option Addr} {c2 : Nat} {s : Lra.Stp} (hs : StpV w a1 a2 s) (hc : s.hints.length ≤ c2 ∧ c2 ≤ maxLen) (hn : s.lits.length ≤ 8388608 ∧ s.hints.length ≤ 1048576) {o : Option Addr} {k m : Nat} (hm : s.lits.length = m)
    (ho : X.ownsRow W.heap.size 40 1 (.slice o (m + m) k) (m + m) ((s.lits ++ s.lits).map (Value.int .i32))) : ArgS B.n B.cb B.bm B.t B.r X o a2 c2 (Ckr.dStp s) := by
  have hck : Ck B.n B.cb B.bm B.t B.r B.k X (Ckr.dC S.C) S.last S.dn := h1.two.b
  have hlt : ∀ g, Own5 B.cb B.bm B.t B.r W g → g < W.heap.size := fun g hg => Ck.lt h.two.b hg
  have hx : ∀ x ∈ s.lits ++ s.lits, -2147483648 ≤ x ∧ x ≤ 2147483647 := fun x hx => by
    rcases List.mem_append.1 hx with hx | hx <;> exact hs.l.1 x hx
  have el : (s.lits ++ s.lits).length = m + m := by rw [List.length_append, hm]
  have hl : Lits X o (s.lits ++ s.lits) := own_row (by rw [el]; exact ho) hx
  have hh : Hnts X a2 s.hints := hs.h.below h1.bel
  rw [h1.bn] at hck ⊢
  refine ⟨⟨hl, hh, hs.k, hs.i, ⟨by show (s.lits ++ s.lits).length ≤ _; rw [List.length_append]; omega, hs.n.2⟩⟩, ⟨hl, fun g off e hne => ?_⟩, Ck.arg hck hh (fun g off e hne => row_lt hs.h g off e hne), hc, ⟨by show (s.lits ++ s.lits).length ≤ _; rw [List.length_append]; omega, hn.2⟩⟩
  have hpos : 0 < m + m := by rw [← el]; exact List.length_pos_iff.2 hne
  obtain ⟨g', c', cur, e1, hg, hg', _⟩ := own_some ho hpos
  cases e
  cases e1
  refine ⟨(Array.getElem?_eq_some_iff.1 hg').1, ?_, ?_, ?_, ?_, fun _ cs fr e => ?_⟩
  · intro e; have := hlt _ (.inl e); omega
  · intro e; have := hlt _ (.inr (.inl e)); omega
  · intro e; have := hlt _ (.inr (.inr (.inl e.symm))); omega
  · intro e; have := hlt _ (.inr (.inr (.inr (.inl e.symm)))); omega
  · rw [hg'] at e; injection e with e1; injection e1 with _ e2; cases e2
end Go.Proofs.Ytjjanmgeogjngaa

/- CheckSets as a call. -/
namespace Go.Proofs.Ytjjanmgeogjngaa
open Go.RowKit Go.Maps
set_option linter.unusedVariables false
set_option maxRecDepth 100000
theorem step_append_run {P : Program} {w w' : World} {ops : Array Oper} {o : Oper} {a : Act} {K : Act → World → Prop} {Q : Exit → Act → World → Prop} {E : Prop} (hgd : o.guard = none) (s x : Operand) (t u : TypeId)
    (ho : o.op = .call { callee := .builtin .append, args := #[s, x], argTypes := #[t, u] }) {v xv v' : Value} (hs : a.eval s = v) (hx : a.eval x = xv)
    (hrun : (Builtin.append_ #[t, u] o.type #[v, xv]).run P w = .ok v' w') (h : K (a.put o.dst v') w') :
    if Region.wanted o (yielded ops a.tmps) = true then Oper.wp P o a w K Q else E := by
  have hw : Region.wanted o (yielded ops a.tmps) = true := by simp [Region.wanted, hgd]
  rw [if_pos hw]
  unfold Oper.wp
  simp [execOp, ho, resolve, invoke, builtin, hs, hx, hrun, Result.andThen]
  exact h
abbrev dd (c : List Int) : List Int := c ++ c
/-- While the doubled formula is built. -/
structure Gw (w : World) (vars : Int) (gb : Nat) (a : Option Addr) (n c : Nat) (cs : List (List Int)) (q : Nat) (v : Value) (vs : List Value) (wr : World) : Prop where
  blk : wr.heap[gb]? = some (.cells #[.int .i64 vars, v] 24 (0, 0))
  box : wr.heap[w.heap.size]? = some (.cells #[.int .i64 vars, .slice a n c] 24 (0, 0))
  cm : Cm w.heap.size wr v ((cs.take q).map dd) vs
  bel : Below w.heap.size w wr
  ge : w.heap.size < gb
theorem Gw.later {w : World} {vars : Int} {gb : Nat} {a : Option Addr} {n c : Nat} {cs : List (List Int)} {q : Nat} {v : Value} {vs : List Value} {wr X : World} (h : Gw w vars gb a n c cs q v vs wr) (hb : Below wr.heap.size wr X) : Gw w vars gb a n c cs q v vs X :=
  ⟨(hb.block _ (Array.getElem?_eq_some_iff.1 h.blk).1).trans h.blk, (hb.block _ (Array.getElem?_eq_some_iff.1 h.box).1).trans h.box, h.cm.below hb, h.bel.trans (hb.mono h.bel.size), h.ge⟩
/-- One clause more, behind the call of doubled. -/
theorem Gw.push {w : World} {vars : Int} {gb : Nat} {a : Option Addr} {n c : Nat} {cs : List (List Int)} {q : Nat} {v : Value} {vs : List Value} {wr X : World} (h : Gw w vars gb a n c cs q v vs wr) (hq : q < cs.length) (hn : cs.length ≤ 200) {o : Option Addr} {k m : Nat} (hm : (cs.getD q []).length = m)
    (ho : X.ownsRow wr.heap.size 40 1 (.slice o (m + m) k) (m + m) ((cs.getD q [] ++ cs.getD q []).map (Value.int .i32))) (hb : Below wr.heap.size wr X) {z : Nat} (hz : X.heap.size = z) :
    ∃ (o6 : Option Addr) (k6 : Nat) (vs6 : List Value) (B : World), (Builtin.append_ #[22, 22] 22 #[v, .slice (some ⟨z, 0, none⟩) 1 1]).run Try.prog (X.alloc (.cells #[.slice o (m + m) k] 39)) = .ok (.slice o6 (q + 1) k6) B ∧ B.cell? ⟨gb, 1, none⟩ = some v ∧ B.frozen? ⟨gb, 1, none⟩ = false ∧ Gw w vars gb a n c cs (q + 1) (.slice o6 (q + 1) k6) vs6 (B.setCell ⟨gb, 1, none⟩ (.slice o6 (q + 1) k6)) := by
  subst hz
  have hX := h.later hb
  have hlt : ((cs.take q).map dd).length = q := by rw [List.length_map, List.length_take]; omega
  have e2 : (cs.getD q [] ++ cs.getD q []).length = m + m := by rw [List.length_append, hm]
  obtain ⟨a6, k6, B, hr, hC, hk, hs, h1, h2, h3⟩ := hX.cm.push (dd (cs.getD q [])) (.slice o (m + m) k) (by show X.ownsRow _ 40 1 _ (cs.getD q [] ++ cs.getD q []).length _; rw [e2]; exact own_base ho h.bel.size) (by rw [hlt]; omega) hX.bel.size
  have htk : (cs.take q).map dd ++ [dd (cs.getD q [])] = (cs.take (q + 1)).map dd := by
    rw [List.take_succ_eq_append_getElem hq, List.map_append]
    simp [List.getD, hq]
  rw [htk] at hC
  have hgl := (Array.getElem?_eq_some_iff.1 hX.blk).1
  have hbl := (Array.getElem?_eq_some_iff.1 hX.box).1
  have ng : v.ownBlock ≠ some gb := fun e => (own_ne hX.blk hX.cm.row (by decide)) e
  have nb : v.ownBlock ≠ some w.heap.size := fun e => (own_ne hX.box hX.cm.row (by decide)) e
  have hBg : B.heap[gb]? = some (.cells #[.int .i64 vars, v] 24 (0, 0)) := (hk gb hgl ng).trans hX.blk
  rw [hlt] at hr hC
  have hge := h.ge
  refine ⟨a6, k6, vs ++ [.slice o (m + m) k], B, hr, row_cell hBg 1, row_frozen hBg 1, ⟨by rw [heap_set_row hBg]; rfl, ?_, ?_, ?_, h.ge⟩⟩
  · rw [heap_other _ _ (by omega)]
    exact (hk _ hbl nb).trans hX.box
  · exact hC.keep (fun g cs' ty hty hg => heap_other _ _ (fun e => by
      rw [e, hBg] at hg
      injection hg with hg; injection hg with _ hg _
      rcases hty with rfl | rfl <;> cases hg))
  · have h0 : Below w.heap.size w B := ⟨h1.trans hX.bel.os, h2.trans hX.bel.tape, h3.trans hX.bel.output, Nat.le_trans hX.bel.size hs, fun g hg => (hk g (by have := hX.bel.size; omega) (fun e => by have := (own_blk hX.cm.row e).1; omega)).trans (hX.bel.block g hg)⟩
    exact h0.setCell (p := ⟨gb, 1, none⟩) (by show w.heap.size ≤ gb; omega) _
set_option maxHeartbeats 8000000 in
theorem law7 (vars : Int) (a : Option Addr) (n c : Nat) (cs : List (List Int)) (al : Option Addr) (nl cl : Nat) (ss : List Lra.Stp) (w : World) (hn : cs.length = n) (hb : n ≤ 8796093022208) (hc : Cls w a cs) (hnl : ss.length = nl) (hbl : nl ≤ 2199023255552) (hs : StepsC w al ss) :
    Calls Try.prog 7 #[.agg #[.int .i64 vars, .slice a n c], .slice al nl cl] w fun e w' => e = .returned (.bool true) ∧ Below w.heap.size w w' := by
  have hB := below_box w (.cells #[.int .i64 vars, .slice a n c] 24)
  have hx := heap_alloc_new w (.cells #[.int .i64 vars, .slice a n c] 24)
  generalize hW1 : w.alloc (.cells #[.int .i64 vars, .slice a n c] 24) = W1 at hB hx
  have x0 : W1.cell? ⟨w.heap.size, 0, none⟩ = some (.int .i64 vars) := row_cell hx 0
  have x1 : W1.cell? ⟨w.heap.size, 1, none⟩ = some (.slice a n c) := row_cell hx 1
  have HX := hid hx
  have HC := hid hc
  have HS := hid hs
  have HN := hid hn
  have HB := hid hB
  have HNL := hid hnl
  have C10 := hid works10
  have C9 := hid (large9 vars a n c cs al nl cl ss W1 hn (by omega) (hc.below hB) hnl (by omega) (hs.below hB).steps)
  have HDone := hid (fun W5 (h : Below W1.heap.size W1 W5) => show Below w.heap.size w W5 from HB.out.trans (h.mono HB.out.size))
  have sh : Hid (n = 0) ∨ ∃ b off, a = some ⟨b, off, none⟩ := by
    rcases hc.2 with h | ⟨b, off, e, _⟩
    · left; rw [h] at hn; exact hn.symm
    · exact .inr ⟨b, off, e⟩
  clear hc hs hn hB hx hnl
  go_enter Try.func7, Try.ntmps7
  go_wp2_with fail
  go_at_call 9
  refine C9.out.mono ?_
  clear C9
  rintro e W4 ⟨⟨b, rfl, hfine⟩, hB4⟩
  have HB4 := hid hB4
  have z0 := (hB4.cell (p := ⟨w.heap.size, 0, none⟩) (Array.getElem?_eq_some_iff.1 HX.out).1).trans x0
  have z1 := (hB4.cell (p := ⟨w.heap.size, 1, none⟩) (Array.getElem?_eq_some_iff.1 HX.out).1).trans x1
  have HFine := hid hfine
  have HX4 := hid ((hB4.block _ (Array.getElem?_eq_some_iff.1 HX.out).1).trans HX.out)
  have HBW := hid (HDone.out W4 hB4)
  clear hfine hB4 x0 x1
  cases b with
  | true =>
    go_wp2_with (go_at_call 10; refine (C10.out _).mono ?_; rintro e W6 ⟨rfl, h6⟩; have OUT := hid (HDone.out W6 (HB4.out.trans (h6.mono HB4.out.size))); clear h6)
    go_ret
    exact ⟨rfl, OUT.out⟩
  | false =>
    have HF := hid (HFine.out rfl)
    clear HFine
    have H200 := hid (show n ≤ 200 by have := HF.out.n; have := HN.out; omega)
    have hnl15 : nl ≤ 1500 := by have := HF.out.s; have := HNL.out; omega
    have HLC := hid (show ∀ k, k < n → (cs.getD k []).length ≤ 1500 from fun k hk => by
      have hk' : k < cs.length := by rw [HN.out]; exact hk
      have e : cs.getD k [] = cs[k] := by simp [List.getD, hk']
      rw [e]
      have : cs[k].length ≤ cs.flatten.length := (List.sublist_flatten_of_mem (List.getElem_mem hk')).length_le
      have := HF.out.l
      omega)
    go_wp2_with fail
    have b5 := below_box W4 (.cells #[.int .i64 vars, .slice none 0 0] 24)
    have g5 := heap_alloc_new W4 (.cells #[.int .i64 vars, .slice none 0 0] 24)
    have HG0 := hid (show Gw w vars W4.heap.size a n c cs 0 (.slice none 0 0) [] (W4.alloc (.cells #[.int .i64 vars, .slice none 0 0] 24)) from
      ⟨g5, (b5.block _ (Array.getElem?_eq_some_iff.1 HX4.out).1).trans HX4.out, by rw [List.take_zero]; exact Cm.nil _ _, HBW.out.trans (b5.mono HBW.out.size), (Array.getElem?_eq_some_iff.1 HX4.out).1⟩)
    clear b5 g5 z0 z1
    generalize W4.alloc (.cells #[.int .i64 vars, .slice none 0 0] 24) = W5 at HG0 ⊢
    obtain ⟨gb, hgb⟩ : ∃ gb, W4.heap.size = gb := ⟨_, rfl⟩
    rw [hgb] at HG0 ⊢
    clear hgb HX4
    rcases sh with Z | ⟨b, off, rfl⟩
    all_goals
      go_loopw [6] (fun i wr => ∃ (q : Nat) (v : Value) (vs : List Value), i = .int .i64 (q : Nat) ∧ q ≤ n ∧ Hid (Gw w vars gb _ n c cs q v vs wr)) (fun i _ => n - (intOf i).toNat)
      case atStart => exact ⟨0, _, _, rfl, Nat.zero_le _, HG0⟩
      case round =>
        obtain ⟨q, v, vs, rfl, hq, HG⟩ := hrel
        have x1 := row_cell HG.out.box 1
        simp only [List.getElem?_toArray, List.getElem?_cons_zero, List.getElem?_cons_succ] at x1
        by_cases hlt : q < n
        · first
            | (exfalso; have := Z.out; omega)
            | (have hlt' : (q : Int) < n := by omega
               have hwk : wrap64 ((q : Int) + 1) = (q : Int) + 1 := by have := H200.out; unfold wrap64; omega
               have hqc : q < cs.length := by rw [HN.out]; exact hlt
               obtain ⟨b2, off2, a', c', e2, _, hcc, hlit, _⟩ := (HC.out.below HG.out.bel).at hqc
               cases e2
               obtain ⟨m, hm⟩ : ∃ m, (cs.getD q []).length = m := ⟨_, rfl⟩
               have hm15 : m ≤ 1500 := by rw [← hm]; exact HLC.out q hlt
               rw [hm] at hcc
               have C34 := hid (fun (X : World) (hX : Below wr.heap.size wr X) => doubled34 a' m c' (cs.getD q []) X hm (by omega) (hlit.below hX))
               have y1 := row_cell HG.out.blk 1
               simp only [List.getElem?_toArray, List.getElem?_cons_zero, List.getElem?_cons_succ] at y1
               obtain ⟨ov, kv, hov⟩ := own_slc HG.out.cm.row
               have hlen : ((cs.take q).map dd).length = q := by rw [List.length_map, List.length_take]; omega
               rw [hlen] at hov
               subst hov
               have HP := hid (fun (X : World) (o : Option Addr) (k : Nat) (ho : X.ownsRow wr.heap.size 40 1 (.slice o (m + m) k) (m + m) ((cs.getD q [] ++ cs.getD q []).map (Value.int .i32))) (hb : Below wr.heap.size wr X) => HG.out.push hqc (by rw [HN.out]; exact H200.out) hm ho hb rfl)
               have HGL := hid (fun (X : World) (hb : Below wr.heap.size wr X) => HG.out.later hb)
               have HWK := hid hwk
               clear hlit hm hlen hqc HG HG0 hwk
               go_wp2_with fail
               have hbd : Below wr.heap.size wr wr.drew := (Below.refl _ _).drew
               go_region_law (first
                 | (go_simp; go_at_call 34; refine (C34.out _ (by first | exact hbd | exact Below.refl _ _)).mono ?_
                    rintro e W6 ⟨o5, k5, rfl, ow5, hb5⟩
                    obtain ⟨o6, k6, vs6, B, hr6, f6, r6, hG6⟩ := HP.out W6 o5 k5 ow5 (by first | exact hbd.trans hb5 | exact hb5)
                    have g6 := HGL.out W6 (by first | exact hbd.trans hb5 | exact hb5)
                    have p1 := row_cell g6.blk 1
                    have p2 := row_cell (g6.later (below_box W6 (.cells #[.slice o5 (m + m) k5] 39))).blk 1
                    simp only [List.getElem?_toArray, List.getElem?_cons_zero, List.getElem?_cons_succ] at p1 p2
                    have HR6 := hid hr6
                    clear g6
                    have HG6 := hid hG6
                    clear hr6 hG6 ow5 hb5 HP)
                 | (refine step_append_run rfl (.tmp 33) (.tmp 40) 22 22 (by rfl) (by rfl) (by rfl) HR6.out ?_))
               all_goals
                 go_wp2_with fail
                 try rw [HWK.out]
                 exact ⟨⟨q + 1, _, _, rfl, hlt, HG6⟩, by simp only [intOf]; omega⟩)
        · have hge : ¬ (q : Int) < n := by omega
          obtain rfl : q = n := by omega
          have x0 := row_cell HG.out.box 0
          have y0 := row_cell HG.out.blk 0
          have y1 := row_cell HG.out.blk 1
          simp only [List.getElem?_toArray, List.getElem?_cons_zero, List.getElem?_cons_succ] at x0 y0 y1
          have hcd : (cs.take q).map dd = cs.map dd := by rw [List.take_of_length_le (by rw [HN.out]; exact Nat.le_refl _)]
          have hcm := HG.out.cm
          rw [hcd] at hcm
          have hld : (cs.map dd).length = q := by rw [List.length_map]; exact HN.out
          obtain ⟨ov, kv, hov, hcls⟩ := hcm.cls (fun d hd => by
            obtain ⟨c0, hc0, rfl⟩ := List.mem_map.1 hd
            obtain ⟨j, hj, rfl⟩ := List.mem_iff_getElem.1 hc0
            obtain ⟨_, _, _, _, _, _, _, hl, _⟩ := HC.out.at hj
            have e : cs.getD j [] = cs[j] := by simp [List.getD, hj]
            have hlen := HLC.out j (by rw [← HN.out]; exact hj)
            rw [e] at hl hlen
            refine ⟨by show (cs[j] ++ cs[j]).length ≤ _; rw [List.length_append]; omega, fun x hx => ?_⟩
            rcases List.mem_append.1 hx with hx | hx <;> exact hl.1 x hx)
          rw [hld] at hov
          subst hov
          have HCL := hid hcls
          have HLD := hid hld
          have HRD := hid (Cnf.right_dd vars cs (by have := HF.out.l; omega))
          have HBE := hid HG.out.bel
          have HGB := hid (fun (X : World) (hX : Below wr.heap.size wr X) => show X.cell? ⟨gb, 0, none⟩ = some (.int .i64 vars) ∧ X.cell? ⟨gb, 1, none⟩ = some (.slice ov q kv) from
            ⟨row_cell (HG.out.later hX).blk 0, row_cell (HG.out.later hX).blk 1⟩)
          clear hcd hcm hcls hld HG HG0
          by_cases hr : Cnf.right vars cs = 0
          · have C13 := hid (new13 vars _ q c cs wr HN.out (HC.out.below HBE.out) hr)
            have C13b := hid (fun (X : World) (hX : Below wr.heap.size wr X) => new13 vars ov q kv (cs.map dd) X HLD.out (HCL.out.below hX) (by rw [show cs.map dd = cs.map (fun c => c ++ c) from rfl, HRD.out]; exact hr))
            go_wp2_with fail
            go_at_call 13
            refine C13.out.mono ?_
            rintro e W6 ⟨ca, bma, ta, ra, rfl, hA, b6⟩
            have ⟨p0, p1⟩ := HGB.out W6 b6
            have C13c := hid (C13b.out W6 b6)
            have HA := hid hA
            have HB6 := hid b6
            clear C13 C13b b6 hA x0 y0 y1
            go_wp2_with fail
            go_at_call 13
            refine C13c.out.mono ?_
            rintro e W7 ⟨cb, bmb, tb, rb, rfl, hB, b7⟩
            have HL0 := hid (Lk.start HBE.out HA.out HB6.out hB b7 (by rw [HN.out]; exact H200.out))
            have HIT0 := hid (show (Ckr.all (Ckr.num 1 cs)).length + Lra.items (ss.drop 0) ≤ 3100 from by
              rw [Ckr.num_all, List.drop_zero]
              have := HF.out.l
              have := HF.out.s
              omega)
            clear C13c b7 hB HA HB6 HRD hr HCL HLD HGB p0 p1
            go_wp2_with fail
            go_loopw [11] (fun iv wr => ∃ (i : Nat) (S : Ckr.St) (A B : Loc), iv = .int .i64 (i : Nat) ∧ i ≤ nl ∧ Hid (Lk w ca cb i S A B wr) ∧ Hid ((Ckr.all S.C).length + Lra.items (ss.drop i) ≤ 3100)) (fun iv _ => nl - (intOf iv).toNat)
            case atStart => exact ⟨0, _, _, _, rfl, Nat.zero_le _, HL0, HIT0⟩
            case round =>
              obtain ⟨i, S, A, B, rfl, hi, HLK, HIT⟩ := hrel
              clear HL0 HIT0
              by_cases hlti : i < nl
              · have hlti' : (i : Int) < nl := by omega
                have hwki : wrap64 ((i : Int) + 1) = (i : Int) + 1 := by unfold wrap64; omega
                have his : i < ss.length := by rw [HNL.out]; exact hlti
                obtain ⟨b2, off2, a1, c1, a2, c2, eal, hst, hcap⟩ := HS.out.at his
                subst eal
                have hdr : ss.drop i = ss[i] :: ss.drop (i + 1) := List.drop_eq_getElem_cons his
                have hit : Lra.items (ss.drop i) = (ss[i].lits.length + ss[i].hints.length) + Lra.items (ss.drop (i + 1)) := by
                  rw [hdr]; unfold Lra.items; rw [List.map_cons, List.sum_cons]
                have HIT2 := hid (show (Ckr.all S.C).length + ((ss[i].lits.length + ss[i].hints.length) + Lra.items (ss.drop (i + 1))) ≤ 3100 by rw [← hit]; exact HIT.out)
                generalize ss[i] = st at *
                have HV := hid hst.v
                have HST := hid (fun (X : World) (hX : Below w.heap.size w X) => hst.below hX)
                have HCAP := hid hcap
                have x4 := (HST.out wr HLK.out.bel).k
                have x5 := (HST.out wr HLK.out.bel).i
                have x6 := (HST.out wr HLK.out.bel).l
                have x7 := (HST.out wr HLK.out.bel).h
                clear hst hcap hdr hit his HIT
                have HWK := hid hwki
                clear hwki
                have HG := hid (show Ckr.Good S.C S.last from HLK.out.two.a.good)
                have HI1 := hid (show i ≤ 100000 by omega)
                obtain ⟨m, hm⟩ : ∃ m, st.lits.length = m := ⟨_, rfl⟩
                obtain ⟨mh, hmh⟩ : ∃ mh, st.hints.length = mh := ⟨_, rfl⟩
                have HM := hid hm
                have HMH := hid hmh
                have hm31 : m ≤ 3100 := by have := HIT2.out; omega
                have hmh31 : mh ≤ 3100 := by have := HIT2.out; omega
                have bV := below_box wr (.cells #[.int .u8 st.kind, .int .i64 st.id, .slice a1 m c1, .slice a2 mh c2] 44)
                have gV := heap_alloc_new wr (.cells #[.int .u8 st.kind, .int .i64 st.id, .slice a1 m c1, .slice a2 mh c2] 44)
                have zV : (wr.alloc (.cells #[.int .u8 st.kind, .int .i64 st.id, .slice a1 m c1, .slice a2 mh c2] 44)).heap.size = wr.heap.size + 1 := by simp
                obtain ⟨V, hV⟩ : ∃ V, wr.alloc (.cells #[.int .u8 st.kind, .int .i64 st.id, .slice a1 m c1, .slice a2 mh c2] 44) = V := ⟨_, rfl⟩
                rw [hV] at bV gV zV
                have C34 := hid (doubled34 a1 m c1 st.lits V hm (by omega) (HV.out.l.below (HLK.out.bel.trans (bV.mono HLK.out.bel.size))))
                rw [hm] at x6
                rw [hmh] at x7
                have v2 := row_cell gV 2
                have w2 := row_frozen gV 2
                simp only [List.getElem?_toArray, List.getElem?_cons_zero, List.getElem?_cons_succ] at v2
                have HBV := hid bV
                have HGV := hid gV
                have HZV := hid zV
                clear bV gV zV hm hmh
                obtain ⟨kd, hkd⟩ : ∃ kd, st.kind = kd := ⟨_, rfl⟩
                obtain ⟨idd, hidd⟩ : ∃ idd, st.id = idd := ⟨_, rfl⟩
                have HKD := hid hkd
                have HIDD := hid hidd
                rw [hkd] at x4 hV HGV
                rw [hidd] at x5 hV HGV
                clear hkd hidd
                go_wp2_with fail
                go_at_call 34
                refine C34.out.mono ?_
                rintro e W6 ⟨o5, k5, rfl, ow5, b5⟩
                have g6 := (b5.block _ (Array.getElem?_eq_some_iff.1 HGV.out).1).trans HGV.out
                have y2 := row_cell g6 2
                have f2 := row_frozen g6 2
                simp only [List.getElem?_toArray, List.getElem?_cons_zero, List.getElem?_cons_succ] at y2
                have hrow := own_type ow5 g6 (by decide)
                obtain ⟨W7', hW7⟩ : ∃ W7', W6.setCell ⟨wr.heap.size, 2, none⟩ (.slice o5 (m + m) k5) = W7' := ⟨_, rfl⟩
                have g7 : W7'.heap[wr.heap.size]? = some (.cells #[.int .u8 kd, .int .i64 idd, .slice o5 (m + m) k5, .slice a2 mh c2] 44 (0, 0)) := by rw [← hW7, heap_set_row g6]; rfl
                have b67 : Below wr.heap.size wr W6 := HBV.out.trans (b5.mono HBV.out.size)
                have b7 : Below wr.heap.size wr W7' := by rw [← hW7]; exact b67.setCell (p := ⟨wr.heap.size, 2, none⟩) (Nat.le_refl _) _
                have ow7 : W7'.ownsRow wr.heap.size 40 1 (.slice o5 (m + m) k5) (m + m) ((st.lits ++ st.lits).map (Value.int .i32)) := by
                  rw [← hW7]
                  exact own_keep (own_base ow5 (by have := HZV.out; omega)) (fun g cs e _ => heap_other _ _ (fun e2 => hrow (by rw [e, e2])))
                have HG7 := hid g7
                have HB7 := hid b7
                have HOW7 := hid ow7
                have x4' := (HST.out W7' (HLK.out.bel.trans (b7.mono HLK.out.bel.size))).k
                have x5' := (HST.out W7' (HLK.out.bel.trans (b7.mono HLK.out.bel.size))).i
                have x6' := (HST.out W7' (HLK.out.bel.trans (b7.mono HLK.out.bel.size))).l
                have x7' := (HST.out W7' (HLK.out.bel.trans (b7.mono HLK.out.bel.size))).h
                rw [HKD.out] at x4'
                rw [HIDD.out] at x5'
                rw [HM.out] at x6'
                rw [HMH.out] at x7'
                clear g6 ow5 b5 b67 b7 ow7 C34 hrow x4 x5 x6 x7 v2 w2 hV
                have y0 := row_cell HG7.out 0
                have y1 := row_cell HG7.out 1
                have y3 := row_cell HG7.out 2
                have y4 := row_cell HG7.out 3
                simp only [List.getElem?_toArray, List.getElem?_cons_zero, List.getElem?_cons_succ] at y0 y1 y3 y4
                have C16a := hid (fun (t : Nat) => show Calls Try.prog 16 #[.pointer (some ⟨ca, 0, none⟩), .agg #[.int .u8 kd, .int .i64 idd, .slice a1 m c1, .slice a2 mh c2]] (W7'.drewN t) fun e W' => e = .returned (.int .i64 (Ckr.stepP S st).1) ∧ (∃ A', Mdk w ca cb i S (Ckr.stepP S st) A' B W') ∧ (∀ g, wr.heap.size ≤ g → g < W7'.heap.size → W'.heap[g]? = W7'.heap[g]?) ∧ W7'.heap.size ≤ W'.heap.size from by
                  have hX : Below wr.heap.size wr (W7'.drewN t) := ⟨HB7.out.os, HB7.out.tape, HB7.out.output, HB7.out.size, HB7.out.block⟩
                  have := HLK.out.stepA HI1.out hX (c1 := c1) ((HLK.out.below hX).argA HV.out HCAP.out ⟨by rw [HM.out]; omega, by rw [HMH.out]; omega⟩)
                  unfold sval at this
                  rw [HKD.out, HIDD.out, HM.out, HMH.out] at this
                  exact this)
                have HB16 := hid (fun (A' : Loc) (X : World) (h : Mdk w ca cb i S (Ckr.stepP S st) A' B X) (hk : ∀ g, wr.heap.size ≤ g → g < W7'.heap.size → X.heap[g]? = W7'.heap[g]?) => show (X.heap[wr.heap.size]? = some (.cells #[.int .u8 kd, .int .i64 idd, .slice o5 (m + m) k5, .slice a2 mh c2] 44 (0, 0))) ∧ Calls Try.prog 16 #[.pointer (some ⟨cb, 0, none⟩), .agg #[.int .u8 kd, .int .i64 idd, .slice o5 (m + m) k5, .slice a2 mh c2]] X fun e W' => e = .returned (.int .i64 (Ckr.stepP S st).1) ∧ ∃ A' B', Lk w ca cb (i + 1) (Ckr.stepP S st).2 A' B' W' from by
                  refine ⟨(hk _ (Nat.le_refl _) (Array.getElem?_eq_some_iff.1 HG7.out).1).trans HG7.out, ?_⟩
                  have ho : X.ownsRow wr.heap.size 40 1 (.slice o5 (m + m) k5) (m + m) ((st.lits ++ st.lits).map (Value.int .i32)) := own_keep HOW7.out (fun g cs e hg => hk g (own_blk HOW7.out e).1 (Array.getElem?_eq_some_iff.1 hg).1)
                  have := h.stepB HG.out HI1.out (by rw [HM.out]; have := HIT2.out; omega) (c1 := k5) (Mdk.argB HLK.out h HV.out HCAP.out ⟨by rw [HM.out]; omega, by rw [HMH.out]; omega⟩ HM.out ho)
                  unfold sval at this
                  rw [show (Ckr.dStp st).kind = st.kind from rfl, show (Ckr.dStp st).id = st.id from rfl, show (Ckr.dStp st).lits.length = m + m from by show (st.lits ++ st.lits).length = _; rw [List.length_append, HM.out], show (Ckr.dStp st).hints = st.hints from rfl, HKD.out, HIDD.out, HMH.out] at this
                  exact this)
                go_wp2_with fail
                clear hW7
                go_region_law (first
                  | (go_simp; go_at_call 16; refine (C16a.out 1).mono ?_
                     rintro e W8 ⟨rfl, ⟨A', hMd⟩, hk8, _⟩
                     obtain ⟨g8, hC8⟩ := HB16.out A' W8 hMd hk8
                     have u0 := row_cell g8 0
                     have u1 := row_cell g8 1
                     have u2 := row_cell g8 2
                     have u3 := row_cell g8 3
                     simp only [List.getElem?_toArray, List.getElem?_cons_zero, List.getElem?_cons_succ] at u0 u1 u2 u3
                     have C16b := hid hC8
                     clear hMd hk8 g8 hC8 C16a HB16)
                  | (go_simp; go_at_call 16; refine C16b.out.mono ?_
                     rintro e W9 ⟨rfl, A9, B9, hL9⟩
                     have HL9 := hid hL9
                     clear hL9 C16b))
                all_goals
                  clear x4' x5' x6' x7' y0 y1 y2 y3 y4 u0 u1 u2 u3 f2 HG7 HB7 HOW7 HST HV HBV HGV HZV HCAP HLK HG
                  have HLEN := hid (Ckr.step_len S st)
                  have HITN := hid (show (Ckr.all (Ckr.stepP S st).2.C).length + Lra.items (ss.drop (i + 1)) ≤ 3100 by have := HLEN.out; have := HIT2.out; have := HM.out; omega)
                  obtain ⟨er, her⟩ : ∃ er, (Ckr.stepP S st).1 = er := ⟨_, rfl⟩
                  obtain ⟨S9, hS9⟩ : ∃ S9, (Ckr.stepP S st).2 = S9 := ⟨_, rfl⟩
                  rw [hS9] at HL9 HITN
                  rw [her]
                  clear her hS9 HLEN HIT2 HI1
                  have HID := hid (show ∀ x ∈ S9.C.map (·.1), -9223372036854775808 ≤ x ∧ x ≤ 9223372036854775807 from fun x hx => by
                    obtain ⟨p, hp, rfl⟩ := List.mem_map.1 hx
                    have h1 := HL9.out.two.a.good.ids p hp
                    have h2 := HL9.out.two.a.good.last_
                    omega)
                  have C35a := hid (show Calls Try.prog 35 #[.pointer (some ⟨ca, 0, none⟩)] W9 fun e w' => KeysOut W9 (S9.C.map (·.1)) e w' from by
                    have hak := HL9.out.ak
                    have := Ck.live HL9.out.two.a (by omega)
                    rw [HL9.out.ac] at this
                    exact this)
                  have C35b := hid (fun (X : World) (hX : Below W9.heap.size W9 X) => show Calls Try.prog 35 #[.pointer (some ⟨cb, 0, none⟩)] X fun e w' => KeysOut X (S9.C.map (·.1)) e w' from by
                    have h' := HL9.out.below hX
                    have hbk := h'.bk
                    have := Ck.live h'.two.b (by omega)
                    rw [h'.bc, show (Ckr.dS S9).C = Ckr.dC S9.C from rfl, Ckr.ids_dC] at this
                    exact this)
                  have C27a := hid (fun (X : World) (hX : Below W9.heap.size W9 X) => show Calls Try.prog 27 #[.pointer (some ⟨ca, 0, none⟩)] X fun e w' => e = .returned (.bool S9.dn) ∧ w' = X from by
                    have h' := HL9.out.below hX
                    have := Ck.done h'.two.a
                    rw [h'.ac] at this
                    exact this)
                  have C27b := hid (fun (X : World) (hX : Below W9.heap.size W9 X) => show Calls Try.prog 27 #[.pointer (some ⟨cb, 0, none⟩)] X fun e w' => e = .returned (.bool S9.dn) ∧ w' = X from by
                    have h' := HL9.out.below hX
                    have := Ck.done h'.two.b
                    rw [h'.bc] at this
                    exact this)
                  have HLB := hid (fun (X : World) (hX : Below W9.heap.size W9 X) => HL9.out.below hX)
                  obtain ⟨ids, hids⟩ : ∃ ids, S9.C.map (·.1) = ids := ⟨_, rfl⟩
                  rw [hids] at HID C35a C35b
                  clear hids HL9
                  unfold KeysOut at C35a
                  obtain ⟨t, ht⟩ : ∃ t, ids.length = t := ⟨_, rfl⟩
                  rw [ht] at C35a
                  have HT := hid ht
                  clear ht
                  go_wp2_with fail
                  go_at_call 35
                  refine C35a.out.mono ?_
                  rintro e W10 ⟨om, km, rfl, owm, b10⟩
                  have C35c := hid (C35b.out W10 b10)
                  unfold KeysOut at C35c
                  rw [HT.out] at C35c
                  have HOM := hid owm
                  have HB10 := hid b10
                  clear owm b10 C35a C35b
                  go_wp2_with fail
                  go_at_call 35
                  refine C35c.out.mono ?_
                  rintro e W11 ⟨on, kn, rfl, own, b11⟩
                  have HB11 := hid (HB10.out.trans (b11.mono HB10.out.size))
                  have HOM1 := hid (show Hnts W11 om ids from own_row (by rw [HT.out]; exact own_below HOM.out b11) HID.out)
                  have HON1 := hid (show Hnts W11 on ids from own_row (by rw [HT.out]; exact own) HID.out)
                  have HBD := hid (fun (t : Nat) => show Below W9.heap.size W9 (W11.drewN t) from ⟨HB11.out.os, HB11.out.tape, HB11.out.output, HB11.out.size, HB11.out.block⟩)
                  have C27a := hid (C27a.out W11 HB11.out)
                  have C27b := hid (C27b.out W11 HB11.out)
                  have hee : (er != er) = false := by simp
                  have hdd : (S9.dn != S9.dn) = false := by simp
                  have htt : ((t : Int) != (t : Int)) = false := by simp
                  have HLK9 := hid (fun (q : Nat) => HLB.out _ (HBD.out q))
                  have HT31 := hid (show t ≤ 9223372036854775807 from by
                    have h0 := HOM.out.2
                    rcases h0 with ⟨_, h0⟩ | ⟨g, cap, cur, _, _, _, h1, h2, _⟩
                    · omega
                    · unfold maxLen at h2; omega)
                  clear own b11 C35c HOM HB10 HB11 HLB HBD
                  generalize S9.dn = dn9 at *
                  go_wp2_with fail
                  go_at_call 27
                  refine C27a.out.mono ?_
                  rintro e w4 ⟨rfl, hw4⟩
                  rw [hw4]
                  clear hw4 C27a
                  go_wp2_with fail
                  go_at_call 27
                  refine C27b.out.mono ?_
                  rintro e w4 ⟨rfl, hw4⟩
                  rw [hw4]
                  clear hw4 C27b
                  go_wp2_with fail
                  obtain ⟨wo, hwo⟩ : ∃ wo, wo = wr := ⟨wr, rfl⟩
                  subst hwo
                  go_loopw [17] (fun kv wr => ∃ k : Nat, k ≤ t ∧ kv = .int .i64 (k : Nat) ∧ Hid (∃ q, wr = W11.drewN q)) (fun kv _ => t - (intOf kv).toNat)
                  case atStart => exact ⟨0, Nat.zero_le _, rfl, hid ⟨0, rfl⟩⟩
                  case round =>
                    obtain ⟨k, hk, rfl, HQ⟩ := hrel
                    by_cases hltk : k < t
                    · have hltk' : (k : Int) < t := by omega
                      have hwkk : wrap64 ((k : Int) + 1) = (k : Int) + 1 := by have := HT31.out; unfold wrap64; omega
                      obtain ⟨q9, hq9⟩ := HQ.out
                      have hbq : Below W11.heap.size W11 wr := by rw [hq9]; exact ⟨rfl, rfl, rfl, Nat.le_refl _, fun _ _ => rfl⟩
                      obtain ⟨bi, oi, e1, _, hci, _, _⟩ := Row.at (HOM1.out.below hbq) (j := k) (by rw [HT.out]; exact hltk)
                      obtain ⟨bj, oj, e2, _, hcj, _, _⟩ := Row.at (HON1.out.below hbq) (j := k) (by rw [HT.out]; exact hltk)
                      subst e1
                      subst e2
                      generalize ids.getD k 0 = y at hci hcj
                      have hyy : (y != y) = false := by simp
                      have HQ2 := hid (fun (z : Nat) => show ∃ q, wr.drewN z = W11.drewN q from ⟨q9 + z, by rw [hq9, World.drewN_drewN]⟩)
                      have HWKK := hid hwkk
                      clear hq9 hbq HQ hwkk
                      go_wp2_with fail
                      go_quiet (fail)
                      go_wp2_with fail
                      try rw [HWKK.out]
                      exact ⟨⟨k + 1, hltk, rfl, hid (HQ2.out _)⟩, by simp only [intOf]; omega⟩
                    · have hgek : ¬ (k : Int) < t := by omega
                      have HF9 := hid (show Lk w ca cb (i + 1) S9 A9 B9 wr from by
                        obtain ⟨q9, hq9⟩ := HQ.out
                        rw [hq9]
                        exact HLK9.out q9)
                      clear HQ HLK9 HOM1 HON1 HID
                      go_wp2_with fail
                      try rw [HWK.out]
                      exact ⟨⟨i + 1, S9, A9, B9, rfl, hlti, HF9, HITN⟩, by simp only [intOf]; omega⟩
              · have hgei : ¬ (i : Int) < nl := by omega
                have HW := hid (fun (X : World) (hX : Below wr.heap.size wr X) => HLK.out.bel.trans (hX.mono HLK.out.bel.size))
                clear HLK HIT
                go_wp2_with (go_at_call 10; refine (C10.out _).mono ?_; rintro e W9 ⟨rfl, h9⟩; have OUT := hid (HW.out W9 h9); clear h9)
                go_ret
                exact ⟨rfl, OUT.out⟩
          · have C13 := hid (new13_err vars _ q c cs wr HN.out (HC.out.below HBE.out) hr)
            have C13b := hid (fun (X : World) (hX : Below wr.heap.size wr X) => show Calls Try.prog 13 #[.agg #[.int .i64 vars, .slice ov q kv]] X fun e w' => e = .returned (.tuple #[.pointer none, .int .i64 (Cnf.right vars cs)]) ∧ Below X.heap.size X w' from by
              have := new13_err vars ov q kv (cs.map dd) X HLD.out (HCL.out.below hX) (by rw [show cs.map dd = cs.map (fun c => c ++ c) from rfl, HRD.out]; exact hr)
              rw [show cs.map dd = cs.map (fun c => c ++ c) from rfl, HRD.out] at this
              exact this)
            go_wp2_with fail
            go_at_call 13
            refine C13.out.mono ?_
            rintro e W6 ⟨rfl, b6⟩
            have ⟨p0, p1⟩ := HGB.out W6 b6
            have C13c := hid (C13b.out W6 b6)
            have B6 := hid (HBE.out.trans (b6.mono HBE.out.size))
            clear C13 C13b b6 x0 y0 y1
            go_wp2_with fail
            go_at_call 13
            refine C13c.out.mono ?_
            rintro e W7 ⟨rfl, b7⟩
            have B7 := hid (B6.out.trans (b7.mono B6.out.size))
            have hee : (Cnf.right vars cs != Cnf.right vars cs) = false := by simp
            have he0 : (Cnf.right vars cs == 0) = false := by simpa using hr
            clear C13c b7 hr HRD
            generalize Cnf.right vars cs = er at *
            go_wp2_with fail
            go_loopw [11] (fun i wr => i = .int .i64 0 ∧ Hid (Below w.heap.size w wr)) (fun _ _ => 0)
            case atStart => exact ⟨rfl, B7⟩
            case round =>
              obtain ⟨rfl, HI⟩ := hrel
              have HW := hid (fun (X : World) (hX : Below wr.heap.size wr X) => HI.out.trans (hX.mono HI.out.size))
              by_cases h0 : 0 < nl
              · have h0' : (0 : Int) < nl := by omega
                go_wp2_with (go_at_call 10; refine (C10.out _).mono ?_; rintro e W9 ⟨rfl, h9⟩; have OUT := hid (HW.out W9 h9); clear h9)
                go_ret
                exact ⟨rfl, OUT.out⟩
              · have h0' : ¬ (0 : Int) < nl := by omega
                go_wp2_with (go_at_call 10; refine (C10.out _).mono ?_; rintro e W9 ⟨rfl, h9⟩; have OUT := hid (HW.out W9 h9); clear h9)
                go_ret
                exact ⟨rfl, OUT.out⟩
end Go.Proofs.Ytjjanmgeogjngaa

/- Clauses are looked at as sets: a step with its literals doubled behind is answered as the step, by a checker of the formula with all clauses doubled so, for every formula and every row of steps. -/
namespace Go.Proofs.Ytjjanmgeogjngaa.checkSets
open Go.ChangeShapes Go.WideShapes Go.ChangeAt Go.ChangeMaps Go.RowKit Go.Joins
set_option linter.unusedVariables false

set_option maxRecDepth 100000 in
theorem lifted (os : Os) (started : os.Started) (H : Type) (enc : TypeId × Value → H) :
    ReturnsInHanded {} Try.checked os 7 .any (Rows.checkSetsSpec.pre6 enc Try.prog Try.f7 Rows.checkSetsRow.domain false) (Rows.checkSetsSpec.post enc Try.prog Try.f7 false true false false) := by
  refine returnsInHanded_of_change_sized (C := Try.checked) own started (by kernel_rfl) Try.func7
    (ChangeSpec.witness6 (enc := enc) (C := Try.checked) false ⟨#[], #[.agg #[.int .i64 0, .slice none 0 0], .slice none 0 0], []⟩ 8 (by kernel_rfl) (by kernel_rfl) (by kernel_rfl) (by kernel_rfl)) ?_
  intro W base args ds gs before hval0 hW hcnd0 hsz0 hholds
  have hval : ∀ (j : Nat) t v, Try.f7.params[j]? = some t → args[j]? = some v → Value.okWide Try.prog W .any base t v := hval0
  have hsz : (DataW.weightsEach Try.prog (Try.f7.params.toList ++ Rows.checkSetsSpec.plain.varTypes Try.prog) (ds ++ gs)).all (· ≤ reachBytes) = true := hsz0
  have hW' := hW
  obtain ⟨p, q, hA0, hV, rfl, hfz, hnd⟩ := hW
  have hA : DataW.TrodAll enc Try.prog W 0 (fun _ => true) true Try.f7.params.toList args.toList ds p := hA0
  rw [Try.params7] at hA hval hsz
  obtain ⟨v0, vs0, d0, ds0, p0, q0, hargs, rfl, rfl, h0, r0⟩ := trodAll_cons hA
  obtain ⟨v1, vs1, d1, ds1, p1, q1, rfl, rfl, rfl, h1, r1⟩ := trodAll_cons r0
  obtain ⟨rfl, rfl, rfl⟩ := trodAll_nil r1
  obtain rfl : args = #[v0, v1] := by cases args; simp_all
  obtain ⟨rfl, rfl⟩ := trodVars_none hV
  have k0 := h0
  have lt0 : ∀ x ∈ p0, x.block < W.heap.size := by obtain ⟨m, hm⟩ := k0; exact DataW.trod_lt m _ _ _ hm
  obtain ⟨c00, c01, y00, y01, m0, rfl, rfl, rfl, hy00, hy01⟩ := open_agg2 Try.underlying24 (by kernel_rfl) cellsF (hval 0 24 v0 rfl rfl) h0
  obtain ⟨vars0, e00, e01, wv0⟩ := DataW.trod_int Try.underlying3 hy00
  simp only [List.cons.injEq, and_true] at e00
  subst e00
  have hws0 : ∀ x ∈ y01.1.weights Try.prog 22, x ≤ reachBytes := by
    intro x hx
    have hm2 : x ∈ (DataW.agg [y00.1, y01.1] : DataW H).weights Try.prog 24 := by
      simp only [DataW.weights, Try.underlying24]
      exact DataW.weights_mem_each (j := 1) rfl rfl x hx
    have := List.all_eq_true.1 hsz _ (DataW.weights_mem_each (j := 0) (t := 24) (d := .agg [y00.1, y01.1]) rfl rfl x hm2)
    simpa using this
  obtain ⟨a0, len0, cap0, z0, rfl, hl0, w0, hn0⟩ := cls_open hy01 hws0
  have k1 := h1
  have lt1 : ∀ x ∈ p1, x.block < W.heap.size := by obtain ⟨m, hm⟩ := k1; exact DataW.trod_lt m _ _ _ hm
  obtain ⟨a1, len1, cap1, rfl⟩ := okWide_slice Try.underlying25 (hval 1 25 v1 rfl rfl)
  obtain ⟨fu1, hf1⟩ := h1
  have hws1 : ∀ x ∈ d1.weights Try.prog 25, x ≤ reachBytes := by
    intro x hx
    have := List.all_eq_true.1 hsz _ (DataW.weights_mem_each (j := 1) (t := 25) (d := d1) rfl rfl x hx)
    simpa using this
  obtain ⟨_, _, _, z1, e1, hl1, w1, hn1⟩ := steps_open (y := (d1, p1)) hf1 hws1
  injection e1 with e1a e1b e1c
  subst e1a e1b e1c
  clear hA0 hval0
  refine (law7 vars0 a0 len0 cap0 z0 a1 len1 cap1 z1 W hl0 hn0 w0 hl1 hn1 w1).mono fun e W' ⟨he, bel⟩ => ?_
  subst he
  exact ⟨_, rfl, _, _, _, [], _, [], hW', trodAll_mk1 (shut_bool Try.underlying4 _), (trodAll_cons_mk (Below.trod laidOut (by kernel_rfl) (of_decide_eq_true (by kernel_rfl)) k0 bel lt0) (trodAll_cons_mk (Below.trod laidOut (by kernel_rfl) (of_decide_eq_true (by kernel_rfl)) k1 bel lt1) trodAll_mk0)), rfl, bel.frame _, fun h => by cases h⟩

theorem over : Rows.checkSetsRow.holds Try.pinned (OpenSpec.ofChange Rows.checkSetsSpec) :=
  OpenClaim.holds_of_wide 7 Try.f7 rfl rfl rfl rfl rfl rfl rfl ⟨rfl, rfl, rfl, rfl, rfl⟩ rfl rfl rfl rfl rfl (by kernel_rfl) Try.func7 (by kernel_rfl)
    (of_decide_eq_true (by kernel_rfl)) (by unfold Func.isWrapper; first | (rw [if_pos (by decide +kernel)]; kernel_rfl) | (rw [if_neg (by decide +kernel)]; exact ⟨rfl, rfl⟩))
    (fun os started H enc _ => lifted os started H enc)

end Go.Proofs.Ytjjanmgeogjngaa.checkSets
namespace Go.Proofs.Ytjjanmgeogjngaa
open Go

/-- The given statement. -/
theorem checkSets_holds : Rows.CheckSetsSaid := checkSets.over
end Go.Proofs.Ytjjanmgeogjngaa

