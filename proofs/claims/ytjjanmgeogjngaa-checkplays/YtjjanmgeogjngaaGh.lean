/- Is a formula, or a proof, larger than is looked at? -/
import Derived.Test.YtjjanmgeogjngaaGa
import Derived.Test.YtjjanmgeogjngaaGb
import Derived.Test.YtjjanmgeogjngaaGg
import Derived.Test.YtjjanmgeogjngaaRows
import Derived.ProofKit
import Derived.OpenShut
import Derived.Stop.Joined
import Derived.ChangeOld
import Derived.Deep.Slices
import Derived.Deep.Grids
import Derived.Deep.Matrix
import Derived.Lib.SmallJoins
import Derived.SizedLaws
/- Is a formula, or a proof, larger than is looked at? -/
namespace Go.Proofs.Ytjjanmgeogjngaa
open Go.RowKit
set_option linter.unusedVariables false

set_option maxRecDepth 100000 in
set_option maxHeartbeats 4000000 in
theorem size38 (a : Option Addr) (n c : Nat) (ss : List Lra.Stp) (w : World) (hn : ss.length = n) (hb : n ≤ 35184372088832) (hs : Steps w a ss) :
    Calls Try.prog 38 #[.slice a n c, .int .i64 1500] w fun e w' => SizeOut 1500 ss e ∧ Below w.heap.size w w' := by
  have HS := hid hs
  have HN := hid hn
  have sh := hs.shape
  rw [hn] at sh
  clear hs hn
  rcases sh with Z | ⟨b, off, rfl⟩
  all_goals
    go_enter Try.func38, Try.ntmps38
    go_wp2
    go_loopw [5, 6] (fun mv iv wr => ∃ k m : Nat, mv = .int .i64 m ∧ iv = .int .i64 k ∧ k ≤ n ∧ m ≤ 4501 ∧ Hid (m ≤ 1500 → m = k + Lra.items (ss.take k)) ∧ Hid (Below w.heap.size w wr)) (fun _ iv _ => n - (intOf iv).toNat)
    case atStart => exact ⟨0, 0, rfl, rfl, by omega, by omega, hid (fun _ => by simp [Lra.items]), hid (Below.refl _ _)⟩
    case round =>
      obtain ⟨k, m, rfl, rfl, hk, hm, HM, HB⟩ := hrel
      by_cases hlt : k < n
      · have hlt' : (k : Int) < n := by omega
        by_cases hm6 : m ≤ 1500
        · have hm6' : (m : Int) ≤ 1500 := by omega
          first
          | (exfalso; have := Z.out; omega)
          | (have hks : k < ss.length := by rw [HN.out]; exact hlt
             obtain ⟨a1, c1, a2, c2, hst⟩ := (HS.out.below HB.out).at (j := k) hks
             have HT := hid (Lra.items_take ss k hks)
             obtain ⟨x0, x1, x2, x3, hv⟩ := hst
             obtain ⟨_, _, _, _, hn12⟩ := hv
             generalize ss[k] = s at x0 x1 x2 x3 HT hn12
             generalize s.lits.length = n1 at x2 HT hn12
             generalize s.hints.length = n2 at x3 HT hn12
             obtain ⟨hn1, hn2⟩ := hn12
             have hM := hid (HM.out hm6)
             go_wp2
             go_quiet (fail)
             go_wp2
             go_roundw
             case rel => exact ⟨k + 1, m + 1 + min n1 1500 + min n2 1500, by go_num, by go_num, by omega, by omega, hid (fun h => by rw [HT.out]; have := hM.out; omega), hid (HB.out.trans (below_drewN _ _ _))⟩
             case measure => simp [intOf]; omega)
        · have hm6' : ¬ (m : Int) ≤ 1500 := by omega
          go_wp2
          go_ret
          exact ⟨⟨m, rfl, fun h => absurd h hm6⟩, HB.out⟩
      · have hlt' : ¬ (k : Int) < n := by omega
        have HF := hid (show m ≤ 1500 → ss.length + Lra.items ss ≤ 1500 from fun h => by
          have := HM.out h
          rw [List.take_of_length_le (by rw [HN.out]; omega)] at this
          have := HN.out
          omega)
        go_wp2
        go_ret
        exact ⟨⟨m, rfl, HF.out⟩, HB.out⟩



/-- What is looked at. -/
structure Fine (cs : List (List Int)) (ss : List Lra.Stp) : Prop where
  n : cs.length ≤ 200
  l : cs.length + cs.flatten.length ≤ 1500
  s : ss.length + Lra.items ss ≤ 1500
def LargeOut (cs : List (List Int)) (ss : List Lra.Stp) (e : Ending) : Prop := ∃ b, e = .returned (.bool b) ∧ (b = false → Fine cs ss)
set_option maxRecDepth 100000 in
set_option maxHeartbeats 4000000 in
theorem large9 (vars : Int) (a : Option Addr) (n c : Nat) (cs : List (List Int)) (al : Option Addr) (nl cl : Nat) (ss : List Lra.Stp) (w : World) (hn : cs.length = n) (hb : n ≤ 35184372088832) (hc : Cls w a cs) (hnl : ss.length = nl) (hbl : nl ≤ 35184372088832) (hs : Steps w al ss) :
    Calls Try.prog 9 #[.agg #[.int .i64 vars, .slice a n c], .slice al nl cl] w fun e w' => LargeOut cs ss e ∧ Below w.heap.size w w' := by
  have hB := below_box w (.cells #[.int .i64 vars, .slice a n c] 24)
  have hx := heap_alloc_new w (.cells #[.int .i64 vars, .slice a n c] 24)
  generalize hW1 : w.alloc (.cells #[.int .i64 vars, .slice a n c] 24) = W1 at hB hx
  have x1 : W1.cell? ⟨w.heap.size, 1, none⟩ = some (.slice a n c) := row_cell hx 1
  have HC := hid (hc.below hB)
  have HN := hid hn
  have HB := hid hB
  have HX := hid (Array.getElem?_eq_some_iff.1 hx).1
  have C38 := hid (fun W2 (h : Below W1.heap.size W1 W2) => size38 al nl cl ss W2 hnl hbl (hs.below (hB.trans (h.mono hB.size))))
  clear hc hn hx hB hs hnl
  go_enter Try.func9, Try.ntmps9
  go_wp2
  go_loopw [5, 6] (fun mv iv wr => ∃ k m : Nat, mv = .int .i64 m ∧ iv = .int .i64 k ∧ k ≤ n ∧ m ≤ 3001 ∧ Hid (m ≤ 1500 → m = k + ((cs.take k).flatten).length) ∧ Hid (Below W1.heap.size W1 wr)) (fun _ iv _ => n - (intOf iv).toNat)
  case atStart => exact ⟨0, 0, rfl, rfl, by omega, by omega, hid (fun _ => by simp), hid (Below.refl _ _)⟩
  case round =>
    obtain ⟨k, m, rfl, rfl, hk, hm, HM, HBe⟩ := hrel
    have y1 : wr.cell? ⟨w.heap.size, 1, none⟩ = some (.slice a n c) := (HBe.out.cell (p := ⟨w.heap.size, 1, none⟩) HX.out).trans x1
    have D38 := hid (C38.out wr HBe.out)
    by_cases hlt : k < n
    · have hlt' : (k : Int) < n := by omega
      by_cases hm6 : m ≤ 1500
      · have hm6' : (m : Int) ≤ 1500 := by omega
        have hkl : k < cs.length := by rw [HN.out]; exact hlt
        obtain ⟨b, off, a', cap', rfl, _, hcell, _, hle⟩ := (HC.out.below HBe.out).at hkl
        have HT := hid (Cnf.flat_len cs k hkl)
        generalize (cs.getD k []).length = n1 at hcell hle HT
        have hM := hid (HM.out hm6)
        clear D38
        go_wp2
        go_roundw
        case rel => exact ⟨k + 1, m + 1 + min n1 1500, by go_num, by go_num, by omega, by omega, hid (fun h => by rw [HT.out]; have := hM.out; omega), HBe⟩
        case measure => simp [intOf]; omega
      · have hm6' : ¬ (m : Int) ≤ 1500 := by omega
        have hm7 : (1500 : Int) < m := by omega
        clear D38
        go_wp2
        go_ret
        exact ⟨⟨true, rfl, fun h => by cases h⟩, HB.out.trans (HBe.out.mono HB.out.size)⟩
    · have hlt' : ¬ (k : Int) < n := by omega
      have HF := hid (show m ≤ 1500 → cs.length + cs.flatten.length ≤ 1500 from fun h => by
        have := HM.out h
        rw [List.take_of_length_le (by rw [HN.out]; omega)] at this
        have := HN.out
        omega)
      by_cases hm6 : 1500 < m
      · have hm7 : (1500 : Int) < m := by omega
        clear D38
        go_wp2
        go_ret
        exact ⟨⟨true, rfl, fun h => by cases h⟩, HB.out.trans (HBe.out.mono HB.out.size)⟩
      · have hm7 : ¬ (1500 : Int) < m := by omega
        by_cases hn2 : 200 < n
        · have hn3 : (200 : Int) < n := by omega
          clear D38
          go_wp2
          go_ret
          exact ⟨⟨true, rfl, fun h => by cases h⟩, HB.out.trans (HBe.out.mono HB.out.size)⟩
        · have hn3 : ¬ (200 : Int) < n := by omega
          go_wp2_with (go_at_call 38; refine D38.out.mono ?_; clear D38; rintro e W3 ⟨⟨z, rfl, hz⟩, hB3⟩; have HZ := hid hz; have HB3 := hid hB3; clear hz hB3)
          go_ret
          exact ⟨⟨_, rfl, fun h => ⟨by rw [HN.out]; omega, HF.out (by omega), HZ.out (by simp at h; omega)⟩⟩, (HB.out.trans (HBe.out.mono HB.out.size)).trans (HB3.out.mono (Nat.le_trans HB.out.size HBe.out.size))⟩
end Go.Proofs.Ytjjanmgeogjngaa

/- What follows by hints is true: plain. -/
namespace Ckr
set_option linter.unusedVariables false
set_option linter.unusedSimpArgs false
/-- Which literals are true. -/
def Asn (τ : Int → Bool) : Prop := ∀ x, x ≠ 0 → τ (-x) = !τ x
theorem vl_pos {T : List Int} {l : Int} (h : 0 < vl T l) : l ∈ T := by
  unfold vl at h
  by_cases h1 : l ∈ T
  · exact h1
  · rw [if_neg h1] at h; split at h <;> omega
theorem vl_neg' {T : List Int} {l : Int} (h : vl T l < 0) : -l ∈ T := by
  unfold vl at h
  by_cases h1 : l ∈ T
  · rw [if_pos h1] at h; omega
  · rw [if_neg h1] at h
    by_cases h2 : -l ∈ T
    · exact h2
    · rw [if_neg h2] at h; omega
theorem meet_true {τ : Int → Bool} (hτ : Asn τ) {T : List Int} (hT : ∀ x ∈ T, τ x = true) (c : List Int) : ∀ f g, (∀ x ∈ c, x ≠ 0) → meetL T f c = some g → (c.any τ = true ∨ (f ≠ 0 ∧ τ f = true)) → g ≠ 0 ∧ τ g = true := by
  induction c with
  | nil =>
    intro f g _ h h2
    rw [meetL] at h; cases h
    rcases h2 with h2 | h2
    · cases h2
    · exact h2
  | cons l ls ih =>
    intro f g h0 h h2
    have hl0 := h0 l (by simp)
    have h0' : ∀ x ∈ ls, x ≠ 0 := fun x hx => h0 x (List.mem_cons_of_mem _ hx)
    rw [List.any_cons, Bool.or_eq_true] at h2
    by_cases c1 : vl T l < 0 ∨ l = f
    · rw [meet_skip c1] at h
      refine ih f g h0' h ?_
      rcases h2 with (h2 | h2) | h2
      · rcases c1 with c1 | c1
        · have := hT _ (vl_neg' c1)
          rw [hτ l hl0, h2] at this; cases this
        · subst c1; exact .inr ⟨hl0, h2⟩
      · exact .inl h2
      · exact .inr h2
    · by_cases c2 : 0 < vl T l ∨ f ≠ 0
      · rw [meet_wrong c1 c2] at h; cases h
      · rw [meet_free c1 c2] at h
        refine ih l g h0' h ?_
        rcases h2 with (h2 | h2) | h2
        · exact .inr ⟨hl0, h2⟩
        · exact .inl h2
        · exact absurd h2.1 (fun h => c2 (.inr h))
/-- Clauses that are true, with no literal 0. -/
def Sat (τ : Int → Bool) (F : Int → Option (List Int)) : Prop := ∀ h c, F h = some c → c.any τ = true ∧ ∀ x ∈ c, x ≠ 0
theorem thru_true {τ : Int → Bool} (hτ : Asn τ) {F : Int → Option (List Int)} (hF : Sat τ F) (hs : List Int) : ∀ T, (∀ x ∈ T, τ x = true) → (thru F T hs).1 ≠ 1 ∧ ∀ x ∈ (thru F T hs).2, τ x = true := by
  induction hs with
  | nil => intro T hT; exact ⟨by simp [thru], hT⟩
  | cons h hs ih =>
    intro T hT
    cases e : F h with
    | none => rw [thru_none e]; exact ⟨by show (2 : Int) ≠ 1; decide, hT⟩
    | some c =>
      obtain ⟨hc, hc0⟩ := hF h c e
      have key : ∀ g, meetL T 0 c = some g → g ≠ 0 ∧ τ g = true := fun g hg => meet_true hτ hT c 0 g hc0 hg (.inl hc)
      cases em : meetL T 0 c with
      | none =>
        have e2 : ¬ meetHow (meetL T 0 c) = 0 := by rw [em]; decide
        rw [thru_stop e e2, em]
        exact ⟨by show (2 : Int) ≠ 1; decide, hT⟩
      | some g =>
        obtain ⟨hg0, hg⟩ := key g em
        have e2 : meetHow (meetL T 0 c) = 0 := by rw [em]; simp [meetHow, hg0]
        rw [thru_go e e2, em]
        refine ih _ ?_
        simp only [meetT, if_neg hg0]
        intro x hx
        rcases List.mem_append.1 hx with hx | hx
        · exact hT x hx
        · rw [List.mem_singleton.1 hx]; exact hg
theorem deny_true {τ : Int → Bool} (hτ : Asn τ) (but : Int) (xs : List Int) : ∀ T, (∀ x ∈ T, τ x = true) → (∀ x ∈ xs, x ≠ 0) → (denyL but T xs).1 = true → ∃ x ∈ xs, x ≠ but ∧ (τ x = true ∨ x = -but) := by
  induction xs with
  | nil => intro T _ _ h; cases h
  | cons l ls ih =>
    intro T hT h0 h
    have h0' : ∀ x ∈ ls, x ≠ 0 := fun x hx => h0 x (List.mem_cons_of_mem _ hx)
    have up : (∃ x ∈ ls, x ≠ but ∧ (τ x = true ∨ x = -but)) → ∃ x ∈ l :: ls, x ≠ but ∧ (τ x = true ∨ x = -but) := by
      rintro ⟨x, hx, h⟩; exact ⟨x, List.mem_cons_of_mem _ hx, h⟩
    rw [denyL] at h
    by_cases c1 : l = but
    · rw [if_pos c1] at h; exact up (ih T hT h0' h)
    · rw [if_neg c1] at h
      by_cases c2 : 0 < vl T l ∨ l = -but
      · rcases c2 with c2 | c2
        · exact ⟨l, by simp, c1, .inl (hT l (vl_pos c2))⟩
        · exact ⟨l, by simp, c1, .inr c2⟩
      · rw [if_neg c2] at h
        by_cases c3 : vl T l = 0
        · rw [if_pos c3] at h
          by_cases ht : τ l = true
          · exact ⟨l, by simp, c1, .inl ht⟩
          · refine up (ih _ ?_ h0' h)
            intro x hx
            rcases List.mem_append.1 hx with hx | hx
            · exact hT x hx
            · rw [List.mem_singleton.1 hx, hτ l (h0 l (by simp))]; simpa using ht
        · rw [if_neg c3] at h; exact up (ih T hT h0' h)
theorem deny_false {τ : Int → Bool} (hτ : Asn τ) (but : Int) (xs : List Int) : ∀ T, (∀ x ∈ T, τ x = true) → (∀ x ∈ xs, x ≠ 0) → (∀ x ∈ xs, x ≠ but → τ x = false) → ∀ x ∈ (denyL but T xs).2, τ x = true := by
  induction xs with
  | nil => intro T hT _ _; exact hT
  | cons l ls ih =>
    intro T hT h0 hf
    have h0' : ∀ x ∈ ls, x ≠ 0 := fun x hx => h0 x (List.mem_cons_of_mem _ hx)
    have hf' : ∀ x ∈ ls, x ≠ but → τ x = false := fun x hx => hf x (List.mem_cons_of_mem _ hx)
    rw [denyL]
    by_cases c1 : l = but
    · rw [if_pos c1]; exact ih T hT h0' hf'
    · rw [if_neg c1]
      by_cases c2 : 0 < vl T l ∨ l = -but
      · rw [if_pos c2]; exact hT
      · rw [if_neg c2]
        by_cases c3 : vl T l = 0
        · rw [if_pos c3]
          refine ih _ ?_ h0' hf'
          intro x hx
          rcases List.mem_append.1 hx with hx | hx
          · exact hT x hx
          · rw [List.mem_singleton.1 hx, hτ l (h0 l (by simp)), hf l (by simp) c1]; rfl
        · rw [if_neg c3]; exact ih T hT h0' hf'
theorem told_zero {h : Int} (e : toldE h = 0) : h = 1 := by
  unfold toldE at e
  by_cases h1 : h = 1
  · exact h1
  · rw [if_neg h1] at e; split at e <;> cases e
/-- What follows is true, or the hints are open, and the groups hold. -/
theorem follows_split {τ : Int → Bool} (hτ : Asn τ) {F : Int → Option (List Int)} (hF : Sat τ F) {ls lits hs : List Int} (h0 : ∀ x ∈ lits, x ≠ 0) (h : followsF F ls lits hs = 0) :
    lits.any τ = true ∨ (0 < lits.length ∧ ∃ T, (∀ x ∈ T, τ x = true) ∧ coverF F T ls (lits.getD 0 0) ((behind hs).length + 1) 0 0 (behind hs) = 0) := by
  unfold followsF at h
  by_cases c1 : (denyL 0 [] lits).1 = true
  · left
    obtain ⟨x, hx, _, h2⟩ := deny_true hτ 0 lits [] (fun x hx => by cases hx) h0 c1
    rcases h2 with h2 | h2
    · exact List.any_eq_true.2 ⟨x, hx, h2⟩
    · exact absurd h2 (by have := h0 x hx; omega)
  · rw [if_neg c1] at h
    by_cases ha : lits.any τ = true
    · exact .inl ha
    · have hf : ∀ x ∈ lits, x ≠ 0 → τ x = false := fun x hx _ => by
        cases e : τ x with
        | false => rfl
        | true => exact absurd (List.any_eq_true.2 ⟨x, hx, e⟩) ha
      have hT := deny_false hτ 0 lits [] (fun x hx => by cases hx) h0 hf
      obtain ⟨t1, t2⟩ := thru_true hτ hF (ahead hs) _ hT
      by_cases c2 : (thru F (denyL 0 [] lits).2 (ahead hs)).1 = 0 ∧ 0 < lits.length
      · rw [if_pos c2] at h
        exact .inr ⟨c2.2, _, t2, h⟩
      · rw [if_neg c2] at h
        exact absurd (told_zero h) t1
theorem plain_split (hs : List Int) (h : hs.all Lra.above = true) : behind hs = [] := by
  unfold behind
  induction hs with
  | nil => rfl
  | cons x hs ih =>
    rw [List.all_cons, Bool.and_eq_true] at h
    rw [List.dropWhile_cons_of_pos (p := fun h => decide (0 ≤ h)) h.1]
    exact ih h.2
/-- Without groups: true, unless the first literal's negation is nowhere. -/
theorem follows_plain {τ : Int → Bool} (hτ : Asn τ) {F : Int → Option (List Int)} (hF : Sat τ F) {ls lits hs : List Int} (h0 : ∀ x ∈ lits, x ≠ 0) (h : followsF F ls lits hs = 0) (hp : hs.all Lra.above = true) (hn : 0 < lits.length → times (-(lits.getD 0 0)) ls ≠ 0) : lits.any τ = true := by
  rcases follows_split hτ hF h0 h with h | ⟨h1, T, _, h3⟩
  · exact h
  · rw [plain_split hs hp] at h3
    simp only [List.length_nil, Nat.zero_add, coverF] at h3
    have := hn h1
    rw [if_pos (by omega)] at h3
    cases h3

/-! ### Groups -/
theorem times_append (l : Int) (a b : List Int) : times l (a ++ b) = times l a + times l b := by simp [times]
theorem times_perm (l : Int) {a b : List Int} (h : a.Perm b) : times l a = times l b := (h.filter _).length_eq
theorem times_mem {l : Int} {xs : List Int} (h : l ∈ xs) : 0 < times l xs := by
  unfold times
  exact List.length_pos_of_mem (List.mem_filter.2 ⟨h, by simp⟩)
/-- How often the clauses under some ids have a literal. -/
def timesI (l : Int) (F : Int → Option (List Int)) (ids : List Int) : Nat := (ids.map (fun i => times l ((F i).getD []))).sum
theorem cover_ids {F : Int → Option (List Int)} {T ls : List Int} {p : Int} : ∀ k bf sn hs, hs.length < k → coverF F T ls p k bf sn hs = 0 →
    ∃ ids : List Int, ids.Pairwise (· < ·) ∧ (∀ i ∈ ids, bf < i ∧ times (-p) ((F i).getD []) ≠ 0 ∧ ∃ hs', groupE F T ((F i).getD []) p hs' = 0) ∧ (times (-p) ls : Int) ≤ sn + timesI (-p) F ids := by
  intro k
  induction k with
  | zero => intro bf sn hs h; omega
  | succ k ih =>
    intro bf sn hs hl h
    cases hs with
    | nil =>
      rw [coverF] at h
      refine ⟨[], List.Pairwise.nil, fun i hi => (by cases hi), ?_⟩
      by_cases c : sn < times (-p) ls
      · rw [if_pos c] at h; cases h
      · simp [timesI]; omega
    | cons x hs =>
      rw [coverF] at h
      by_cases c1 : -x ≤ bf ∨ times (-p) ((F (-x)).getD []) = 0
      · rw [if_pos c1] at h; cases h
      · rw [if_neg c1] at h
        by_cases c2 : groupE F T ((F (-x)).getD []) p (ahead hs) = 0
        · rw [if_pos c2] at h
          have hb := behind_len hs
          obtain ⟨ids, h1, h2, h3⟩ := ih _ _ _ (by simp at hl; omega) h
          refine ⟨-x :: ids, List.pairwise_cons.2 ⟨fun i hi => (h2 i hi).1, h1⟩, ?_, ?_⟩
          · intro i hi
            rcases List.mem_cons.1 hi with rfl | hi
            · exact ⟨by omega, fun e => c1 (.inr e), _, c2⟩
            · have := h2 i hi
              exact ⟨by omega, this.2⟩
          · have e : timesI (-p) F (-x :: ids) = times (-p) ((F (-x)).getD []) + timesI (-p) F ids := by simp [timesI]
            rw [e]; omega
        · rw [if_neg c2] at h; exact absurd h c2
theorem times_ids (l : Int) (ids : List Int) : ∀ {C : List (Int × List Int)}, C.Pairwise (fun p q => p.1 < q.1) → ids.Nodup → timesI l (look C) ids + times l (all (dropL C ids)) = times l (all C) := by
  induction ids with
  | nil => intro C _ _; simp [timesI, dropL]
  | cons i ids ih =>
    intro C hs hn
    have hn' := List.nodup_cons.1 hn
    have hs' : (drop1 C i).Pairwise (fun p q => p.1 < q.1) := hs.sublist List.filter_sublist
    have h := ih hs' hn'.2
    have e1 : timesI l (look (drop1 C i)) ids = timesI l (look C) ids := by
      unfold timesI
      congr 1
      apply List.map_congr_left
      intro j hj
      rw [look_drop1, if_neg (fun e => hn'.1 (by rw [← e]; exact hj))]
    have e2 : timesI l (look C) (i :: ids) = times l ((look C i).getD []) + timesI l (look C) ids := by simp [timesI]
    have e3 : times l (all C) = times l ((look C i).getD []) + times l (all (drop1 C i)) := by
      cases e : look C i with
      | none => rw [drop1_none (look_none.1 e)]; simp [times]
      | some xs => rw [times_perm l (all_drop1 hs e), times_append]; rfl
    show timesI l (look C) (i :: ids) + times l (all (dropL (drop1 C i) ids)) = _
    omega
theorem mem_dropL {p : Int × List Int} (ids : List Int) : ∀ {C : List (Int × List Int)}, p ∈ C → p.1 ∉ ids → p ∈ dropL C ids := by
  induction ids with
  | nil => intro C h _; exact h
  | cons i ids ih =>
    intro C h hn
    refine ih (C := drop1 C i) (List.mem_filter.2 ⟨h, ?_⟩) (fun hm => hn (List.mem_cons_of_mem _ hm))
    have : p.1 ≠ i := fun e => hn (by rw [e]; simp)
    simpa using this
/-- A literal made true. -/
def flip (τ : Int → Bool) (p x : Int) : Bool := if x = p then true else if x = -p then false else τ x
theorem flip_asn {τ : Int → Bool} (hτ : Asn τ) {p : Int} (hp : p ≠ 0) : Asn (flip τ p) := by
  intro x hx
  unfold flip
  by_cases h1 : x = p
  · rw [if_pos h1, if_neg (by omega), if_pos (by omega)]; rfl
  · by_cases h2 : x = -p
    · rw [if_neg h1, if_pos h2, if_pos (by omega)]; rfl
    · rw [if_neg h1, if_neg h2, if_neg (by omega), if_neg (by omega)]; exact hτ x hx
theorem flip_true {τ : Int → Bool} {p x : Int} (h : x ≠ -p) (h2 : τ x = true ∨ x = p) : flip τ p x = true := by
  unfold flip
  by_cases h1 : x = p
  · rw [if_pos h1]
  · rw [if_neg h1, if_neg h]
    rcases h2 with h2 | h2
    · exact h2
    · exact absurd h2 h1
def SatC (τ : Int → Bool) (C : List (Int × List Int)) : Prop := ∀ p ∈ C, p.2.any τ = true
theorem SatC.sat {τ : Int → Bool} {C : List (Int × List Int)} {last : Int} (h : SatC τ C) (hG : Good C last) : Sat τ (look C) := fun i c e => ⟨h _ (look_mem e), fun x hx => (hG.lits x (mem_all (look_mem e) x hx)).1⟩
/-- A clause that follows leaves a model. -/
theorem follows_model {τ : Int → Bool} (hτ : Asn τ) {C : List (Int × List Int)} {last : Int} (hG : Good C last) (hS : SatC τ C) {lits hs : List Int} (h0 : ∀ x ∈ lits, x ≠ 0) (h : followsF (look C) (all C) lits hs = 0) :
    ∃ τ', Asn τ' ∧ SatC τ' C ∧ lits.any τ' = true := by
  have hF := hS.sat hG
  rcases follows_split hτ hF h0 h with h | ⟨h1, T, hT, h3⟩
  · exact ⟨τ, hτ, hS, h⟩
  · obtain ⟨ids, i1, i2, i3⟩ := cover_ids _ _ _ _ (Nat.lt_succ_self _) h3
    have hpm := Lra.getD_mem lits 0 h1
    have hp0 := h0 _ hpm
    generalize lits.getD 0 0 = p at *
    have hnd : ids.Nodup := i1.imp (fun h e => by omega)
    have key := times_ids (-p) ids hG.sorted hnd
    refine ⟨flip τ p, flip_asn hτ hp0, fun q hq => ?_, List.any_eq_true.2 ⟨p, hpm, by simp [flip]⟩⟩
    have hq0 : ∀ x ∈ q.2, x ≠ 0 := fun x hx => (hG.lits x (mem_all hq x hx)).1
    by_cases hm : -p ∈ q.2
    · have hin : q.1 ∈ ids := by
        apply Classical.byContradiction
        intro hno
        have h1 := mem_dropL ids hq hno
        have h2 : 0 < times (-p) (all (dropL C ids)) := times_mem (mem_all h1 _ hm)
        omega
      have hlook := look_of_mem hG.sorted (show (q.1, q.2) ∈ C from hq)
      obtain ⟨_, _, hs', hg⟩ := i2 _ hin
      rw [hlook, Option.getD_some] at hg
      unfold groupE at hg
      have done : ∀ x ∈ q.2, x ≠ -p → (τ x = true ∨ x = p) → q.2.any (flip τ p) = true := fun x hx h1 h2 => List.any_eq_true.2 ⟨x, hx, flip_true h1 h2⟩
      by_cases c1 : (denyL (-p) T q.2).1 = true
      · obtain ⟨x, hx, h1, h2⟩ := deny_true hτ (-p) q.2 T hT hq0 c1
        exact done x hx h1 (h2.imp id (fun e => by omega))
      · rw [if_neg c1] at hg
        by_cases hf : ∀ x ∈ q.2, x ≠ -p → τ x = false
        · have hT2 := deny_false hτ (-p) q.2 T hT hq0 hf
          exact absurd (told_zero hg) (thru_true hτ hF hs' _ hT2).1
        · obtain ⟨x, hx⟩ := Classical.not_forall.1 hf
          have hx2 : x ∈ q.2 ∧ x ≠ -p ∧ τ x = true := by
            refine ⟨?_, ?_, ?_⟩
            · exact Classical.byContradiction (fun h => hx (fun h' => absurd h' h))
            · exact fun e => hx (fun _ h' => absurd e h')
            · cases e : τ x with
              | true => rfl
              | false => exact absurd (fun _ _ => e) hx
          exact done x hx2.1 hx2.2.1 (.inl hx2.2.2)
    · obtain ⟨x, hx, ht⟩ := List.any_eq_true.1 (hS q hq)
      exact List.any_eq_true.2 ⟨x, hx, flip_true (fun e => hm (e ▸ hx)) (.inl ht)⟩
end Ckr

/- Clauses over so many variables; clauses whose first literal's negation stands nowhere; models. -/
namespace Ckr
/-- What a model says of a literal. -/
def asg (m : List Bool) (x : Int) : Bool := if x < 0 then !(m.getD (-x - 1).toNat false) else m.getD (x - 1).toNat false
theorem asg_asn (m : List Bool) : Asn (asg m) := by
  intro x hx
  unfold asg
  by_cases h : x < 0
  · rw [if_pos h, if_neg (by omega), Bool.not_not]
  · rw [if_neg h, if_pos (by omega), Int.neg_neg]
theorem tr_asg (m : List Bool) (x : Int) (h1 : 1 ≤ Cnf.vr x) (h2 : Cnf.vr x ≤ m.length) : Cnf.tr x m = asg m x := by
  unfold Cnf.tr
  rw [decide_eq_true h1, decide_eq_true h2, Bool.true_and, Bool.true_and]
  unfold asg Cnf.vr
  by_cases h : x < 0
  · rw [if_pos h, if_pos h, decide_eq_false (by omega)]; simp
  · have h3 : 0 < x := by unfold Cnf.vr at h1; rw [if_neg h] at h1; omega
    rw [if_neg h, if_neg h, decide_eq_true h3]; simp
theorem val_asg (m : List Bool) (c : List Int) (h : ∀ x ∈ c, 1 ≤ Cnf.vr x ∧ Cnf.vr x ≤ m.length) : Cnf.val c m = c.any (asg m) := by
  unfold Cnf.val
  induction c with
  | nil => rfl
  | cons x c ih =>
    rw [List.any_cons, List.any_cons, tr_asg m x (h x (by simp)).1 (h x (by simp)).2, ih (fun y hy => h y (List.mem_cons_of_mem _ hy))]
theorem num_mem {cs : List (List Int)} : ∀ {i : Int} {p : Int × List Int}, p ∈ num i cs → p.2 ∈ cs := by
  induction cs with
  | nil => intro i p h; cases h
  | cons c cs ih =>
    intro i p h
    rcases List.mem_cons.1 h with rfl | h
    · exact List.mem_cons_self
    · exact List.mem_cons_of_mem _ (ih h)
theorem mem_num {cs : List (List Int)} {c : List Int} (h : c ∈ cs) : ∀ i, ∃ j, (j, c) ∈ num i cs := by
  induction cs with
  | nil => cases h
  | cons d cs ih =>
    intro i
    rcases List.mem_cons.1 h with rfl | h
    · exact ⟨i, List.mem_cons_self⟩
    · obtain ⟨j, hj⟩ := ih h (i + 1)
      exact ⟨j, List.mem_cons_of_mem _ hj⟩
theorem holds_sat {cs : List (List Int)} {m : List Bool} (h : Cnf.holds cs m = true) (hl : ∀ x ∈ cs.flatten, 1 ≤ Cnf.vr x ∧ Cnf.vr x ≤ m.length) (i : Int) : SatC (asg m) (num i cs) := by
  intro p hp
  have hm := num_mem hp
  have := List.all_eq_true.1 h _ hm
  rwa [val_asg m p.2 (fun x hx => hl x (List.mem_flatten.2 ⟨_, hm, hx⟩))] at this
/-- Could a clause have been taken for its first literal? -/
def freshB (cs : List (List Int)) (l : List Int) : Bool := decide (0 < l.length) && cs.all (fun c => !Cnf.has c (-(l.getD 0 0)))
theorem new_good {vars : Int} {cs : List (List Int)} (hr : Cnf.right vars cs = 0) : Good (num 1 cs) cs.length := by
  obtain ⟨v0, v1, hcl, hfl, hlit⟩ := Go.Proofs.Ytjjanmgeogjngaa.right_zero hr
  have ids : ∀ (cs : List (List Int)) (i : Int), ∀ p ∈ num i cs, i ≤ p.1 ∧ p.1 < i + cs.length := by
    intro cs
    induction cs with
    | nil => intro i p hp; cases hp
    | cons c cs ih =>
      intro i p hp
      rcases List.mem_cons.1 hp with rfl | hp
      · simp; omega
      · have := ih (i + 1) p hp; simp; omega
  have srt : ∀ (cs : List (List Int)) (i : Int), (num i cs).Pairwise (fun p q => p.1 < q.1) := by
    intro cs
    induction cs with
    | nil => intro i; exact List.Pairwise.nil
    | cons c cs ih => intro i; exact List.pairwise_cons.2 ⟨fun q hq => by have := (ids cs (i + 1) q hq).1; simp only; omega, ih (i + 1)⟩
  refine ⟨srt cs 1, fun p hp => by have := ids cs 1 p hp; omega, by omega, fun x hx => ?_, by rw [num_all]; exact hfl⟩
  rw [num_all] at hx
  have := hlit x hx
  unfold Cnf.vr at this
  split at this <;> omega
/-- A step that follows without groups is true wherever the formula is, unless it could have been taken for its first literal. -/
theorem implies {vars : Int} {cs : List (List Int)} (hr : Cnf.right vars cs = 0) {l hs : List Int} {i : Int} (h : (stepP (new cs) ⟨1, i, l, hs⟩).1 = 0) (hp : hs.all Lra.above = true) (hf : freshB cs l = false) {m : List Bool} (hm : (m.length : Int) = vars) (ho : l.all (Lra.below vars) = true) (hh : Cnf.holds cs m = true) : Cnf.val l m = true := by
  have hG := new_good hr
  obtain ⟨v0, v1, hcl, hfl, hlit⟩ := Go.Proofs.Ytjjanmgeogjngaa.right_zero hr
  have hS := holds_sat hh (fun x hx => by have := hlit x hx; omega) 1
  unfold stepP at h
  cases hmay : Lra.may ⟨1, i, l, hs⟩ with
  | false => rw [hmay] at h; cases h
  | true =>
    rw [hmay, if_pos rfl, if_neg (by simp only; decide)] at h
    have hl0 : ∀ x ∈ l, x ≠ 0 := by
      unfold Lra.may at hmay
      simp only [if_pos, Bool.and_eq_true] at hmay
      intro x hx
      have := List.all_eq_true.1 hmay.2.1 x hx
      simp [Lra.literal] at this
      exact this.1
    unfold addS addE new at h
    simp only at h
    by_cases c1 : i ≤ (cs.length : Int)
    · rw [if_pos c1] at h; cases h
    · rw [if_neg c1] at h
      have hfo : followsF (look (num 1 cs)) (all (num 1 cs)) l hs = 0 := by
        by_cases c2 : followsF (look (num 1 cs)) (all (num 1 cs)) l hs = 0
        · exact c2
        · rw [if_neg c2] at h; exact h
      have hany := follows_plain (asg_asn m) (hS.sat hG) hl0 hfo hp (fun hl => by
        unfold freshB at hf
        rw [decide_eq_true hl, Bool.true_and] at hf
        rw [num_all]
        have hne : ¬ cs.all (fun c => !Cnf.has c (-(l.getD 0 0))) = true := by rw [hf]; decide
        rw [List.all_eq_true] at hne
        obtain ⟨c, hc⟩ := Classical.not_forall.1 hne
        have hc1 : c ∈ cs := Classical.byContradiction (fun h => hc (fun h' => absurd h' h))
        have hc2 : Cnf.has c (-(l.getD 0 0)) = true := by
          cases e : Cnf.has c (-(l.getD 0 0)) with
          | true => rfl
          | false => exact absurd (fun _ => by rw [e]; rfl) hc
        have hmem : -(l.getD 0 0) ∈ cs.flatten := by
          unfold Cnf.has at hc2
          obtain ⟨y, hy, e⟩ := List.any_eq_true.1 hc2
          rw [show -(l.getD 0 0) = y by simpa using e]
          exact List.mem_flatten.2 ⟨c, hc1, hy⟩
        have := times_mem hmem
        omega)
      rw [val_asg m l (fun x hx => ?_)]
      · exact hany
      · have h1 := hl0 x hx
        have h2 := List.all_eq_true.1 ho x hx
        simp [Lra.below] at h2
        refine ⟨?_, by omega⟩
        unfold Cnf.vr; split <;> omega
end Ckr
namespace Go.Proofs.Ytjjanmgeogjngaa
open Go.RowKit
set_option linter.unusedVariables false

set_option maxRecDepth 100000 in
set_option maxHeartbeats 4000000 in
theorem over32 (m : Int) (a : Option Addr) (n c : Nat) (xs : List Int) (w : World) (hn : xs.length = n) (hb : n ≤ 35184372088832) (hx : Lits w a xs) :
    Calls Try.prog 32 #[.slice a n c, .int .i64 m] w fun e w' => e = .returned (.bool (xs.all (Lra.below m))) ∧ w' = w := by
  have HX := hid hx
  have HN := hid hn
  obtain ⟨r, hr⟩ : ∃ r, xs.all (Lra.below m) = r := ⟨_, rfl⟩
  have HR := hid hr
  rw [hr]
  clear hx hn hr
  go_enter Try.func32, Try.ntmps32
  go_wp2
  go_loop [5] (fun i => ∃ k : Nat, i = .int .i64 k ∧ k ≤ n ∧ Hid ((xs.take k).all (Lra.below m) = true)) (fun i => n - (intOf i).toNat)
  case atStart => exact ⟨0, rfl, by omega, hid (by simp)⟩
  case round =>
    obtain ⟨k, rfl, hk, HI⟩ := hrel
    by_cases hlt : k < n
    · have hlt' : (k : Int) < n := by omega
      obtain ⟨b, off, rfl, _, hc, h1, h2⟩ := Row.at HX.out (j := k) (by rw [HN.out]; exact hlt)
      have HT := hid (fun h => Lra.all_take (Lra.below m) xs k (by rw [HN.out]; exact hlt) HI.out h)
      have HZ := hid (fun h => Lra.all_false (Lra.below m) xs k (by rw [HN.out]; exact hlt) h)
      generalize xs.getD k 0 = x at hc h1 h2 HT HZ
      have C := hid (var49 x w h1 h2)
      by_cases t : m < Cnf.vr x
      · have HRF := hid (show r = false by rw [← HR.out]; exact HZ.out (by unfold Lra.below; simp; omega))
        generalize Cnf.vr x = v at C t
        clear HT HZ
        go_wp2_with (go_at_call 49; refine C.out.mono ?_; clear C; rintro e W ⟨rfl, rfl⟩)
        go_ret
        exact ⟨by rw [HRF.out]; rfl, rfl⟩
      · have HK := hid (HT.out (by unfold Lra.below; simp; omega))
        generalize Cnf.vr x = v at C t
        clear HT HZ
        go_wp2_with (go_at_call 49; refine C.out.mono ?_; clear C; rintro e W ⟨rfl, rfl⟩)
        go_round
        case rel => exact ⟨k + 1, by go_num, by omega, HK⟩
        case measure => simp [intOf]; omega
    · have hlt' : ¬ (k : Int) < n := by omega
      have HR1 := hid (show r = true by
        rw [← HR.out]
        have := HI.out
        rwa [List.take_of_length_le (by rw [HN.out]; omega)] at this)
      go_wp2
      go_ret
      exact ⟨by rw [HR1.out]; rfl, rfl⟩
theorem all_takeC (p : List Int → Bool) (cs : List (List Int)) (k : Nat) (h : k < cs.length) (h1 : (cs.take k).all p = true) (h2 : p (cs.getD k []) = true) : (cs.take (k + 1)).all p = true := by
  rw [Cnf.take_cls cs k h, List.all_append, h1]; simpa using h2
set_option maxRecDepth 100000 in
set_option maxHeartbeats 4000000 in
theorem fresh33 (vars : Int) (a : Option Addr) (n c : Nat) (cs : List (List Int)) (al : Option Addr) (nl cl : Nat) (l : List Int) (w : World) (hn : cs.length = n) (hb : n ≤ 35184372088832) (hc : Cls w a cs) (hcb : ∀ c ∈ cs, c.length ≤ 1099511627776) (hnl : l.length = nl) (hbl : nl ≤ 35184372088832) (hl : Lits w al l) (hlb : ∀ x ∈ l, -1048576 ≤ x ∧ x ≤ 1048576) :
    Calls Try.prog 33 #[.agg #[.int .i64 vars, .slice a n c], .slice al nl cl] w fun e w' => e = .returned (.bool (Ckr.freshB cs l)) ∧ Below w.heap.size w w' := by
  have hB := below_box w (.cells #[.int .i64 vars, .slice a n c] 24)
  have hx := heap_alloc_new w (.cells #[.int .i64 vars, .slice a n c] 24)
  generalize hW1 : w.alloc (.cells #[.int .i64 vars, .slice a n c] 24) = W1 at hB hx
  have x1 : W1.cell? ⟨w.heap.size, 1, none⟩ = some (.slice a n c) := row_cell hx 1
  have HX := hid (Array.getElem?_eq_some_iff.1 hx).1
  have HC := hid (hc.below hB)
  have HL := hid (hl.below hB)
  have HN := hid hn
  have HB := hid hB
  have HCB := hid hcb
  have HNL := hid hnl
  have HLB := hid hlb
  obtain ⟨r, hr⟩ : ∃ r, Ckr.freshB cs l = r := ⟨_, rfl⟩
  have HR := hid hr
  rw [hr]
  clear hc hl hn hB hx hcb hr hnl hlb
  go_enter Try.func33, Try.ntmps33
  go_wp2
  go_loopw [5] (fun i wr => ∃ k : Nat, i = .int .i64 k ∧ k ≤ n ∧ Hid ((cs.take k).all (fun c => !Cnf.has c (-(l.getD 0 0))) = true) ∧ Hid (Below W1.heap.size W1 wr)) (fun i _ => n - (intOf i).toNat)
  case atStart => exact ⟨0, rfl, by omega, hid (by simp), hid (Below.refl _ _)⟩
  case round =>
    obtain ⟨k, rfl, hk, HI, HBe⟩ := hrel
    have y1 : wr.cell? ⟨w.heap.size, 1, none⟩ = some (.slice a n c) := (HBe.out.cell (p := ⟨w.heap.size, 1, none⟩) HX.out).trans x1
    by_cases hlt : k < n
    · have hlt' : (k : Int) < n := by omega
      by_cases hnl : 0 < nl
      · have hnl' : (0 : Int) < nl := by omega
        have hkl : k < cs.length := by rw [HN.out]; exact hlt
        obtain ⟨b, off, a', cap', rfl, _, hcell, hLk, hle⟩ := (HC.out.below HBe.out).at hkl
        obtain ⟨bl, ol, rfl, _, hc0, h1, h2⟩ := Row.at (HL.out.below HBe.out) (j := 0) (by rw [HNL.out]; exact hnl)
        rw [Nat.add_zero] at hc0
        have hlb := HLB.out _ (Lra.getD_mem l 0 (by rw [HNL.out]; exact hnl))
        have C52 := hid (fun w2 (h : Lits w2 a' (cs.getD k [])) => has52 a' _ cap' (cs.getD k []) (-(l.getD 0 0)) w2 rfl (HCB.out _ (Cnf.getD_cls cs k hkl)) h)
        have HT := hid (fun h => all_takeC (fun c => !Cnf.has c (-(l.getD 0 0))) cs k hkl HI.out h)
        have HZ := hid (fun (h : Cnf.has (cs.getD k []) (-(l.getD 0 0)) = true) => show r = false by
          rw [← HR.out]
          unfold Ckr.freshB
          cases e : cs.all (fun c => !Cnf.has c (-(l.getD 0 0))) with
          | false => simp
          | true => have := List.all_eq_true.1 e _ (Cnf.getD_cls cs k hkl); rw [h] at this; cases this)
        have HLk := hid hLk
        generalize hx0 : l.getD 0 0 = x at *
        have xw : IntKind.i32.wrap (-x) = -x := by rw [IntKind.wrap_i32]; omega
        generalize hnk : (cs.getD k []).length = nk at *
        generalize hhb : Cnf.has (cs.getD k []) (-x) = hb0 at *
        have D52 := hid (fun q => C52.out (wr.drewN q) HLk.out)
        cases hb0
        · have HK := hid (HT.out rfl)
          clear HT HZ C52 hhb hLk HLk
          go_wp2_with fail
          go_quiet ((go_at_call 52; exact Calls.quiet_of_same (D52.out _)))
          go_wp2
          go_roundw
          case rel => exact ⟨k + 1, by go_num, by omega, HK, hid (HBe.out.trans (below_drewN _ _ _))⟩
          case measure => simp [intOf]; omega
        · have HRF := hid (HZ.out rfl)
          clear HT HZ C52 hhb hLk HLk
          go_wp2_with fail
          go_quiet ((go_at_call 52; exact Calls.quiet_of_same (D52.out _)))
          go_wp2
          go_ret
          exact ⟨by rw [HRF.out]; rfl, HB.out.trans ((HBe.out.trans (below_drewN _ _ _)).mono HB.out.size)⟩
      · have hnl' : ¬ (0 : Int) < nl := by omega
        have HRF := hid (show r = false by rw [← HR.out]; unfold Ckr.freshB; rw [decide_eq_false (by rw [HNL.out]; omega)]; rfl)
        go_wp2
        go_ret
        exact ⟨by rw [HRF.out]; rfl, HB.out.trans (HBe.out.mono HB.out.size)⟩
    · have hlt' : ¬ (k : Int) < n := by omega
      have HRT := hid (show r = decide (0 < nl) by
        rw [← HR.out]
        unfold Ckr.freshB
        have := HI.out
        rw [List.take_of_length_le (by rw [HN.out]; omega)] at this
        rw [this, Bool.and_true, HNL.out])
      go_wp2
      go_ret
      exact ⟨by rw [HRT.out]; rfl, HB.out.trans (HBe.out.mono HB.out.size)⟩
end Go.Proofs.Ytjjanmgeogjngaa

/- The arguments as a row's reading hands them over: formulas; steps; rows of numbers. -/
namespace Go.Proofs.Ytjjanmgeogjngaa
open Go.ChangeShapes Go.WideShapes Go.ChangeAt Go.RowKit
set_option linter.unusedVariables false

theorem own : ownKnob Try.prog.godebug = none := by kernel_rfl
theorem laidOut : laidOutB Try.prog = true := by kernel_rfl
theorem list4 {α : Type} : ∀ {l : List α}, l.length = 4 → ∃ a b c d, l = [a, b, c, d]
  | [a, b, c, d], _ => ⟨a, b, c, d, rfl⟩
theorem reach_val : reachBytes = 140737488351232 := by decide +kernel
theorem bytes39 : Try.prog.bytesOf 39 = 24 := by kernel_rfl
theorem bytes40 : Try.prog.bytesOf 40 = 4 := by kernel_rfl
theorem ints_open {H : Type} {enc : TypeId × Value → H} {W : World} {fuel : Nat} {v : Value} {y : DataW H × List MemPlace} {T E : TypeId} {k : IntKind} {lo hi : Int} {by_ : Nat} (hT : Try.prog.underlying T = some (.slice E)) (hE : Try.prog.underlying E = some (.int k)) (hC : Try.prog.cellsOf E = 1) (hB : Try.prog.bytesOf E = by_) (hb4 : 4 ≤ by_)
    (hk : ∀ n, (Lit.int k n).wf = true → lo ≤ n ∧ n ≤ hi)
    (h : DataW.trod enc Try.prog W 0 (fun _ => true) true fuel T [v] = some y) (hw : ∀ x ∈ y.1.weights Try.prog T, x ≤ reachBytes) : ∃ a len cap xs, v = .slice a len cap ∧ xs.length = len ∧ Row k lo hi W a xs ∧ len ≤ 35184372088832 ∧ len ≤ cap ∧ cap ≤ maxLen := by
  rcases open_ints hT hE hC h with ⟨hcs, _⟩ | ⟨x, l, c, zs, hcs, _, hl, hm, hz, hy, hcell, hwz⟩
  · simp at hcs
    subst hcs
    exact ⟨none, 0, 0, [], rfl, rfl, Row.nil _ _ _ _ _, by omega, Nat.le_refl _, Nat.zero_le _⟩
  · simp at hcs
    subst hcs
    have hzl : zs.length = c := by simpa using hz
    have hcb : c * by_ ≤ 140737488351232 := by
      rw [hy] at hw
      have := hw (zs.length * by_) (by
        simp only [DataW.weights, hT, hB]
        refine List.mem_cons.2 (Or.inl ?_)
        simp only [lits, List.length_map, List.length_take, List.length_drop]
        rw [show min l zs.length + (zs.length - l) = zs.length by omega])
      rw [reach_val, hzl] at this
      exact this
    have hl4 : l * 4 ≤ c * by_ := Nat.mul_le_mul hl hb4
    refine ⟨some x, l, c, zs.take l, rfl, by simp; omega, ⟨fun y hy => hk _ (hwz y (List.mem_of_mem_take hy)), ?_⟩, by omega, hl, hm⟩
    rcases Nat.eq_zero_or_pos l with h0 | hpos
    · left; subst h0; simp
    · right
      obtain ⟨b, off, rfl, hc⟩ := ints_at hcell (by omega)
      have hb : b < W.heap.size := World.block_lt_of_cell? W _ (hc 0 (by omega))
      refine ⟨b, off, rfl, hb, fun j hj => ?_⟩
      have hj' : j < l := by simp at hj; omega
      rw [hc j (by omega)]
      simp [List.getD, hj']
theorem weights_mem_all {H : Type} {P : Program} {e : TypeId} : ∀ {ds : List (DataW H)} {d : DataW H}, d ∈ ds → ∀ n ∈ d.weights P e, n ∈ DataW.weightsAll P e ds
  | d0 :: ds, d, hd, n, hn => by
    simp only [DataW.weightsAll, List.mem_append]
    rcases List.mem_cons.1 hd with rfl | h
    · exact Or.inl hn
    · exact Or.inr (weights_mem_all h n hn)
instance : Inhabited Lra.Stp := ⟨⟨0, 0, [], []⟩⟩
theorem cells44S : Try.prog.cellsOf 44 = 4 := by kernel_rfl
theorem bytes44S : Try.prog.bytesOf 44 = 64 := by kernel_rfl
theorem steps_open {H : Type} {enc : TypeId × Value → H} {W : World} {fuel : Nat} {v : Value} {y : DataW H × List MemPlace}
    (h : DataW.trod enc Try.prog W 0 (fun _ => true) true fuel 25 [v] = some y) (hw : ∀ x ∈ y.1.weights Try.prog 25, x ≤ reachBytes) : ∃ a n cap ss, v = .slice a n cap ∧ ss.length = n ∧ StepsC W a ss ∧ n ≤ 2199023255552 := by
  rcases Go.Deep.open_slice Try.underlying25 h with ⟨hcs, _⟩ | ⟨x, len, cap, m, fu, D, Pl, hcs, _, hl, hcm, hm, hy, hx⟩
  · simp at hcs
    subst hcs
    exact ⟨none, 0, 0, [], rfl, rfl, .inl rfl, by omega⟩
  · simp at hcs
    subst hcs
    have hm' : m = cap := by simpa using hm
    subst hm'
    rw [hy] at hw
    simp only [DataW.weights, Try.underlying25] at hw
    have hlen : m * 64 ≤ 140737488351232 := by
      have := hw _ List.mem_cons_self
      rw [bytes44S, reach_val] at this
      simp only [List.length_map, List.length_range] at this
      omega
    have each : ∀ i, i < len → ∃ q : Lra.Stp × (Option Addr × Nat) × (Option Addr × Nat), W.cell? (x.add (i * 4)) = some (.int .u8 q.1.kind) ∧ W.cell? (x.add (i * 4 + 1)) = some (.int .i64 q.1.id) ∧ W.cell? (x.add (i * 4 + 2)) = some (.slice q.2.1.1 q.1.lits.length q.2.1.2) ∧ W.cell? (x.add (i * 4 + 3)) = some (.slice q.2.2.1 q.1.hints.length q.2.2.2) ∧ StpV W q.2.1.1 q.2.2.1 q.1 ∧ q.1.hints.length ≤ q.2.2.2 ∧ q.2.2.2 ≤ maxLen := by
      intro i hi
      obtain ⟨cs', h1, h2⟩ := hx i (by omega)
      rw [cells44S] at h1
      obtain ⟨_, hlen', hcell⟩ := World.cells?_some h1
      obtain ⟨y0, y1, y2, y3, n, hxy, _, g0, g1, g2, g3⟩ := Go.Joins.trod_struct4 Try.underlying44 h2
      obtain ⟨v0, v1, v2, v3, rfl⟩ := list4 hlen'
      · have e0 := hcell 0 (by omega)
        have e1 := hcell 1 (by omega)
        have e2 := hcell 2 (by omega)
        have e3 := hcell 3 (by omega)
        rw [Go.Deep.add_add] at e0 e1 e2 e3
        simp only [Prod.mk.injEq] at hxy
        have hmem : D i ∈ (List.range len).map D := List.mem_map.2 ⟨i, List.mem_range.2 hi, rfl⟩
        have hwi : ∀ z ∈ (D i).weights Try.prog 44, z ≤ reachBytes := fun z hz => hw z (List.mem_cons_of_mem _ (List.mem_append.2 (Or.inl (weights_mem_all hmem z hz))))
        rw [hxy.1] at hwi
        obtain ⟨kd, k1, _, k3⟩ := DataW.trod_int Try.underlying5 (show DataW.trod enc Try.prog W 0 (fun _ => true) true n 5 [v0] = some y0 from by simpa [show Try.prog.cellsOf 5 = 1 by kernel_rfl] using g0)
        obtain ⟨id, i1, _, i3⟩ := DataW.trod_int Try.underlying2 (show DataW.trod enc Try.prog W 0 (fun _ => true) true n 2 [v1] = some y1 from by simpa [show Try.prog.cellsOf 2 = 1 by kernel_rfl] using g1)
        simp only [List.cons.injEq, and_true] at k1 i1
        subst k1 i1
        obtain ⟨a1, l1, c1, xs1, rfl, hl1, r1, b1, _, _⟩ := ints_open (lo := -2147483648) (hi := 2147483647) Try.underlying39 Try.underlying40 (by kernel_rfl) (show Try.prog.bytesOf 40 = 4 by kernel_rfl) (by decide) (fun n hn => by have := bounds_i32 hn; omega) (show DataW.trod enc Try.prog W 0 (fun _ => true) true n 39 [v2] = some y2 from by simpa [show Try.prog.cellsOf 39 = 1 by kernel_rfl] using g2) (fun z hz => hwi z (by
          simp only [DataW.weights, Try.underlying44]
          exact DataW.weights_mem_each (j := 2) rfl rfl z hz))
        obtain ⟨a2, l2, c2, xs2, rfl, hl2, r2, b2, d2, f2⟩ := ints_open (lo := -9223372036854775808) (hi := 9223372036854775807) Try.underlying42 Try.underlying2 (by kernel_rfl) (show Try.prog.bytesOf 2 = 8 by kernel_rfl) (by decide) (fun n hn => by have := bounds_i64 hn; omega) (show DataW.trod enc Try.prog W 0 (fun _ => true) true n 42 [v3] = some y3 from by simpa [show Try.prog.cellsOf 42 = 1 by kernel_rfl] using g3) (fun z hz => hwi z (by
          simp only [DataW.weights, Try.underlying44]
          exact DataW.weights_mem_each (j := 3) rfl rfl z hz))
        refine ⟨(⟨kd, id, xs1, xs2⟩, (a1, c1), (a2, c2)), ?_, ?_, ?_, ?_, ⟨r1, r2, ?_, ?_, by simp only; omega⟩, by simp only; omega, f2⟩
        · simpa using e0
        · simpa using e1
        · simp only; rw [hl1]; simpa using e2
        · simp only; rw [hl2]; simpa using e3
        · have := bounds_u8 k3; simp only; omega
        · have := bounds_i64 i3; simp only; omega
    obtain ⟨f, hf⟩ := Go.Deep.choose_lt each
    refine ⟨some x, len, m, (List.range len).map (fun i => (f i).1), rfl, by simp, ?_, by omega⟩
    rcases Nat.eq_zero_or_pos len with h0 | hpos
    · left; subst h0; simp
    · right
      obtain ⟨b, off, spot⟩ := x
      have hspot : spot = none := by simpa [Addr.add] using World.cell?_spot (hf 0 hpos).1
      subst hspot
      refine ⟨b, off, rfl, fun j hj => ?_⟩
      have hj' : j < len := by simpa using hj
      obtain ⟨q0, q1, q2, q3, q4, q5, q6⟩ := hf j hj'
      rw [Go.WideShapes.add_plain] at q0 q1 q2 q3
      have e : ((List.range len).map (fun i => (f i).1))[j] = (f j).1 := by simp
      rw [e]
      exact ⟨_, _, _, _, ⟨q0, q1, q2, q3, q4⟩, q5, q6⟩
theorem cls_open {H : Type} {enc : TypeId × Value → H} {W : World} {v : Value} {fuel : Nat} {y : DataW H × List MemPlace}
    (h : DataW.trod enc Try.prog W 0 (fun _ => true) true fuel 22 [v] = some y) (hw : ∀ x ∈ y.1.weights Try.prog 22, x ≤ reachBytes) :
    ∃ a n cap cs, v = .slice a n cap ∧ cs.length = n ∧ Cls W a cs ∧ n ≤ 8796093022208 := by
  rcases Go.Deep.open_int_rows Try.underlying22 Try.underlying39 Try.underlying40 (by kernel_rfl) (by kernel_rfl) h with ⟨hcs, _⟩ | ⟨x, len, cap, A, L, C, Z, hcs, _, hl, hm, hy, hr⟩
  · simp at hcs
    subst hcs
    exact ⟨none, 0, 0, [], rfl, rfl, ⟨(fun c hc => by simp at hc), .inl rfl⟩, Nat.zero_le _⟩
  · simp at hcs
    subst hcs
    rw [hy] at hw
    simp only [DataW.weights, Try.underlying22] at hw
    have hlen := hw ((((List.range len).map fun r => (Go.Deep.intRow .i32 (A r) (L r) (Z r) : DataW H)).length + ((List.range (cap - len)).map fun j => (Go.Deep.intRow .i32 (A (len + j)) (L (len + j)) (Z (len + j)) : DataW H)).length) * Try.prog.bytesOf 39) List.mem_cons_self
    have hcap : cap * 24 ≤ 140737488351232 := by
      rw [bytes39, reach_val] at hlen
      simp only [List.length_map, List.length_range] at hlen
      omega
    have hrow : ∀ r, r < len → L r ≤ 35184372088832 := by
      intro r hrl
      obtain ⟨_, h1, _, h3, _, h5, _⟩ := hr r (by omega)
      cases hA : A r with
      | none => have := h5 hA; omega
      | some a' =>
        have hmem : (Go.Deep.intRow .i32 (A r) (L r) (Z r) : DataW H) ∈ (List.range len).map fun r => (Go.Deep.intRow .i32 (A r) (L r) (Z r) : DataW H) := List.mem_map.2 ⟨r, List.mem_range.2 hrl, rfl⟩
        have hz := hw (C r * 4) (List.mem_cons_of_mem _ (List.mem_append.2 (Or.inl (weights_mem_all hmem _ (by
          rw [hA]
          simp only [Go.Deep.intRow, DataW.weights, Try.underlying39, bytes40]
          refine List.mem_cons.2 (Or.inl ?_)
          simp only [lits, List.length_map, List.length_take, List.length_drop]
          rw [h3]
          omega)))))
        rw [reach_val] at hz
        omega
    refine ⟨some x, len, cap, (List.range len).map (fun r => (Z r).take (L r)), rfl, by simp, ⟨?_, ?_⟩, by omega⟩
    · intro c hc
      obtain ⟨r, hrl, rfl⟩ := List.mem_map.1 hc
      have := hrow r (List.mem_range.1 hrl)
      simp only [List.length_take]
      omega
    · rcases Nat.eq_zero_or_pos len with h0 | hpos
      · left; subst h0; simp
      · right
        obtain ⟨b, off, spot⟩ := x
        have hspot : spot = none := by simpa [Addr.add] using World.cell?_spot (hr 0 (by omega)).1
        subst hspot
        have hb : b < W.heap.size := by
          have h0 := (hr 0 (by omega)).1
          rw [Go.WideShapes.add_plain] at h0
          exact World.block_lt_of_cell? W _ h0
        refine ⟨b, off, rfl, hb, fun j hj => ?_⟩
        have hj' : j < len := by simpa using hj
        obtain ⟨h0, h1, h2, h3, h4, h5, h6⟩ := hr j (by omega)
        rw [Go.WideShapes.add_plain] at h0
        have e1 : ((List.range len).map (fun r => (Z r).take (L r))).getD j [] = (Z j).take (L j) := by simp [List.getD, hj']
        have e2 : ((Z j).take (L j)).length = L j := by simp only [List.length_take]; omega
        rw [e1, e2]
        refine ⟨A j, C j, h0, ⟨fun y hy => ?_, ?_⟩⟩
        · have := bounds_i32 (h4 y (List.mem_of_mem_take hy))
          omega
        · rcases Nat.eq_zero_or_pos (L j) with hz | hp
          · left; rw [hz]; simp
          · right
            cases hA : A j with
            | none => have := h5 hA; omega
            | some a' =>
              obtain ⟨_, hcell⟩ := h6 a' hA
              obtain ⟨b2, o2, rfl, hc2⟩ := ints_at (w := W) (a := a') (k := .i32) (zs := Z j) (fun i hi => hcell i (by omega)) (by omega)
              refine ⟨b2, o2, rfl, World.block_lt_of_cell? W _ (hc2 0 (by omega)), fun i hi => ?_⟩
              have hi' : i < L j := by rw [e2] at hi; exact hi
              rw [hc2 i (by omega)]
              simp [List.getD, hi']

theorem cellsF : Try.prog.cellsOf 24 = 2 := by kernel_rfl
/-- A row of numbers that is handed in. -/
theorem row_open {H : Type} {enc : TypeId × Value → H} {W : World} {a : Option Addr} {len cap : Nat} {d : DataW H} {p : List MemPlace} {T E : TypeId} {k : IntKind} {lo hi : Int} (hT : Try.prog.underlying T = some (.slice E)) (hE : Try.prog.underlying E = some (.int k)) (hC : Try.prog.cellsOf E = 1) (hB : 4 ≤ Try.prog.bytesOf E)
    (hk : ∀ n, (Lit.int k n).wf = true → lo ≤ n ∧ n ≤ hi) (h : DataW.Trod enc Try.prog W 0 (fun _ => true) true T (.slice a len cap) d p) (hw : ∀ x ∈ d.weights Try.prog T, x ≤ reachBytes) : ∃ xs, xs.length = len ∧ Row k lo hi W a xs ∧ len ≤ 35184372088832 ∧ len ≤ cap ∧ cap ≤ maxLen := by
  obtain ⟨fuel, hf⟩ := h
  obtain ⟨a', len', cap', xs, e, h1, h2, h3, h4, h5⟩ := ints_open (lo := lo) (hi := hi) (y := (d, p)) hT hE hC rfl hB hk hf hw
  injection e with e1 e2 e3
  subst e1 e2 e3
  exact ⟨xs, h1, h2, h3, h4, h5⟩
end Go.Proofs.Ytjjanmgeogjngaa

