/- A clause more: plain facts on models, counts and what follows; nothing of the program but what a row of clauses is. -/
import Derived.Test.YtccncojidkdddaaWorks
import Derived.Laws.AppendOwn
import Derived.Laws.AppendOwnNone
namespace Cnf
theorem scan_ok (vars : Int) : ∀ (ls : List Int) (k : Nat), k + ls.length ≤ 16777216 → (∀ l ∈ ls, 1 ≤ vr l ∧ vr l ≤ vars) → scan vars k ls = 0
  | [], _, _, _ => rfl
  | l :: ls, k, h, hv => by
    have h1 := hv l (by simp)
    rw [scan_on vars k l ls (by simp at h; omega) (by omega)]
    exact scan_ok vars ls (k + 1) (by simp at h; omega) (fun x hx => hv x (by simp [hx]))
theorem scan_small (vars : Int) (ls : List Int) (k : Nat) (h : scan vars k ls = 0) : k ≤ 16777216 → ∀ l ∈ ls, 1 ≤ vr l ∧ vr l ≤ vars := fun hk => (scan_zero vars ls k h hk).2
end Cnf
namespace Tru
theorem taken_more (u : Nat) (cs : List (List Int)) (c : List Int) (ht : taken u cs = 0) (hg : goodC u c = true) (hn : cs.length ≤ 60) (hl : cs.flatten.length ≤ 300) (hc : c.length ≤ 100) : taken u (cs ++ [c]) = 0 := by
  obtain ⟨u', hu', h16, hN, hL, hv⟩ := taken_zero _ cs ht
  have hg' := (goodC_true u c).1 hg
  have hr : Cnf.right u (cs ++ [c]) = 0 := by
    unfold Cnf.right
    rw [if_neg (by omega), if_neg (by simp; omega)]
    refine Cnf.scan_ok _ _ _ (by simp at hl ⊢; omega) fun l hl => ?_
    rw [List.flatten_append] at hl
    rcases List.mem_append.1 hl with h | h
    · obtain ⟨d, hd, h⟩ := List.mem_flatten.1 h
      have := hv d hd l h
      omega
    · exact hg' l (by simpa using h)
  unfold taken
  rw [if_pos hr, if_neg (by omega)]
theorem sat_more (cs : List (List Int)) (c : List Int) (u k : Nat) : sat (cs ++ [c]) u k = (sat cs u k && Cnf.val c (model u k)) := by
  unfold sat Cnf.holds; simp
theorem count_more (cs : List (List Int)) (c : List Int) (u j : Nat) : count (cs ++ [c]) u j ≤ count cs u j ∧ (count (cs ++ [c]) u j = count cs u j ↔ impTo cs u c j = true) := by
  induction j with
  | zero => exact ⟨Nat.le_refl _, by simp [count, impTo]⟩
  | succ j ih =>
    rw [count, count, impTo, sat_more]
    cases hs : sat cs u j <;> cases hv : Cnf.val c (model u j) <;> simp <;> omega
theorem alike_more (cs : List (List Int)) (c : List Int) (u j : Nat) : alikeTo cs (cs ++ [c]) u j = impTo cs u c j := by
  induction j with
  | zero => rfl
  | succ j ih =>
    rw [alikeTo, impTo, ih, sat_more]
    cases sat cs u j <;> cases Cnf.val c (model u j) <;> rfl
theorem imp_none (cs : List (List Int)) (c : List Int) (u : Nat) : ∀ j, (∀ k, k < j → sat cs u k = false) → impTo cs u c j = true
  | 0, _ => rfl
  | j + 1, h => by
    rw [impTo, imp_none cs c u j (fun k hk => h k (by omega)), h j (by omega)]
    rfl
theorem imp_mem (cs : List (List Int)) (c : List Int) (u : Nat) (hc : c ∈ cs) : ∀ j, impTo cs u c j = true
  | 0 => rfl
  | j + 1 => by
    rw [impTo, imp_mem cs c u hc j]
    cases hs : sat cs u j
    · rfl
    · have : Cnf.val c (model u j) = true := by
        unfold sat Cnf.holds at hs
        exact List.all_eq_true.1 hs c hc
      rw [this]; rfl
theorem count_pos (cs : List (List Int)) (u k : Nat) (hs : sat cs u k = true) : ∀ j, k < j → 0 < count cs u j
  | 0, h => by omega
  | j + 1, h => by
    rw [count]
    by_cases e : k = j
    · subst e; rw [hs]; simp
    · have := count_pos cs u k hs j (by omega); omega
theorem count_none (cs : List (List Int)) (u : Nat) : ∀ j, (∀ k, k < j → sat cs u k = false) → count cs u j = 0
  | 0, _ => rfl
  | j + 1, h => by
    rw [count, count_none cs u j (fun k hk => h k (by omega)), h j (by omega)]
    rfl
/-- What Find and Count tell fits. -/
theorem find_count {vars : Int} {cs : List (List Int)} {bs : List Bool} {ok : Bool} {er : Int} (h : FW vars cs bs ok er) : er = taken vars cs ∧ (taken vars cs ≠ 0 → bs = [] ∧ ok = false) ∧ (taken vars cs = 0 → ok = decide (0 < countV vars cs) ∧ (ok = true → Cnf.holds cs bs = true ∧ (bs.length : Int) = vars) ∧ (ok = false → ∀ c, impTo cs vars.toNat c (2 ^ vars.toNat) = true)) := by
  cases h with
  | err h => exact ⟨rfl, fun _ => ⟨rfl, rfl⟩, fun h' => absurd h' h⟩
  | found u k hv ht hk hs hf =>
    refine ⟨ht.symm, fun h' => absurd ht h', fun _ => ⟨?_, (fun _ => ⟨hs, (by rw [model_len, hv])⟩), (fun h => (by cases h))⟩⟩
    subst hv
    unfold countV
    rw [if_pos ht, Int.toNat_natCast, decide_eq_true (count_pos cs u k hs _ hk)]
  | none u hv ht hf =>
    subst hv
    refine ⟨ht.symm, fun h' => absurd ht h', fun _ => ⟨?_, (fun h => (by cases h)), (fun _ c => (by rw [Int.toNat_natCast]; exact imp_none cs c u _ hf))⟩⟩
    unfold countV
    rw [if_pos ht, Int.toNat_natCast, count_none cs u _ hf]
    rfl
theorem impB_mem (vars : Int) (cs : List (List Int)) (c : List Int) (ht : taken vars cs = 0) (hc : c ∈ cs) : impB vars cs c = true ∧ impE vars cs c = 0 := by
  obtain ⟨u, rfl, h16, hN, hL, hv⟩ := taken_zero _ cs ht
  have hg : goodC u c = true := (goodC_true u c).2 (hv c hc)
  unfold impB impE
  rw [if_pos ht, decide_eq_true ht, Int.toNat_natCast, hg, imp_mem cs c u hc]
  exact ⟨rfl, rfl⟩
/-- What a clause more changes. -/
theorem more_all (vars : Int) (cs : List (List Int)) (c : List Int) (ht : taken vars cs = 0) (he : impE vars cs c = 0) (hn : cs.length ≤ 60) (hl : cs.flatten.length ≤ 300) (hc : c.length ≤ 100) :
    taken vars (cs ++ [c]) = 0 ∧ countV vars (cs ++ [c]) ≤ countV vars cs ∧ decide (countV vars (cs ++ [c]) = countV vars cs) = impB vars cs c ∧ alB vars cs vars (cs ++ [c]) = impB vars cs c ∧ alE vars cs vars (cs ++ [c]) = 0 ∧ impB vars cs c = impTo cs vars.toNat c (2 ^ vars.toNat) := by
  obtain ⟨u, rfl, h16, hN, hL, hv⟩ := taken_zero _ cs ht
  have hg : goodC u c = true := by
    unfold impE at he
    rw [if_pos ht, Int.toNat_natCast] at he
    cases e : goodC u c
    · rw [e] at he; simp at he
    · rfl
  have hm := taken_more u cs c ht hg hn hl hc
  have hcm := count_more cs c u (2 ^ u)
  have hi : impB u cs c = impTo cs u c (2 ^ u) := by
    unfold impB
    rw [decide_eq_true ht, Int.toNat_natCast, hg, Bool.true_and, Bool.true_and]
  rw [hi]
  unfold countV alB alE
  rw [if_pos ht, if_pos hm, if_pos ht, if_pos hm, if_pos rfl, decide_eq_true ht, decide_eq_true hm, decide_eq_true rfl, Int.toNat_natCast, alike_more]
  refine ⟨hm, hcm.1, ?_, rfl, rfl, rfl⟩
  cases h : impTo cs u c (2 ^ u)
  · rw [decide_eq_false_iff_not, hcm.2, h]; simp
  · rw [decide_eq_true_eq, hcm.2]; exact h
end Tru
