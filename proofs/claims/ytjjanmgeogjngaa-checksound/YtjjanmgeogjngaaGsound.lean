/- For every formula and every row of steps the law CheckSound returns true, and the arguments stay as they were. No condition. -/
import Derived.Test.YtjjanmgeogjngaaGh
import Derived.Test.YtjjanmgeogjngaaGg
import Derived.Test.YtjjanmgeogjngaaGa
import Derived.Test.YtjjanmgeogjngaaGimplies
import Derived.Test.YtjjanmgeogjngaaRows
import Derived.ShutString
import Derived.ChangeMaps5
import Derived.Below
/- The checker keeps a model, as long as there is one: plain. -/
namespace Ckr
set_option linter.unusedVariables false
set_option linter.unusedSimpArgs false
/-- A number whose bits are these. -/
def code : Nat → (Nat → Bool) → Nat
  | 0, _ => 0
  | n + 1, f => (if f 0 then 1 else 0) + 2 * code n (fun i => f (i + 1))
theorem code_lt (n : Nat) : ∀ f, code n f < 2 ^ n := by
  induction n with
  | zero => intro f; simp [code]
  | succ n ih => intro f; have := ih (fun i => f (i + 1)); rw [code, Nat.pow_succ]; split <;> omega
theorem code_bit (n : Nat) : ∀ f i, i < n → (code n f).testBit i = f i := by
  induction n with
  | zero => intro f i h; omega
  | succ n ih =>
    intro f i h
    cases i with
    | zero =>
      rw [code, Nat.testBit_zero]
      cases f 0 <;> simp <;> omega
    | succ i =>
      rw [code, Nat.testBit_succ, show ((if f 0 then 1 else 0) + 2 * code n (fun i => f (i + 1))) / 2 = code n (fun i => f (i + 1)) by split <;> omega]
      exact ih (fun i => f (i + 1)) i (by omega)
theorem asg_code {τ : Int → Bool} (hτ : Asn τ) (n : Nat) (x : Int) (h1 : 1 ≤ Cnf.vr x) (h2 : Cnf.vr x ≤ n) : asg (Tru.model n (code n (fun i => τ ((i : Int) + 1)))) x = τ x := by
  unfold Cnf.vr at h1 h2
  unfold asg
  by_cases h : x < 0
  · rw [if_pos h] at h1 h2 ⊢
    rw [Tru.model_get _ _ _ (by omega), code_bit _ _ _ (by omega), show (((-x - 1).toNat : Nat) : Int) + 1 = -x by omega, hτ x (by omega), Bool.not_not]
  · rw [if_neg h] at h1 h2 ⊢
    rw [Tru.model_get _ _ _ (by omega), code_bit _ _ _ (by omega), show (((x - 1).toNat : Nat) : Int) + 1 = x by omega]
/-- All literals are of variables up to n, and none is 0. -/
def Upto (n : Nat) (C : List (Int × List Int)) : Prop := ∀ p ∈ C, ∀ x ∈ p.2, 1 ≤ Cnf.vr x ∧ Cnf.vr x ≤ n
theorem sat_of {τ : Int → Bool} (hτ : Asn τ) {C : List (Int × List Int)} (hS : SatC τ C) (n : Nat) (hu : Upto n C) : ∃ k, k < 2 ^ n ∧ Tru.sat (C.map (·.2)) n k = true := by
  refine ⟨code n (fun i => τ ((i : Int) + 1)), code_lt _ _, ?_⟩
  unfold Tru.sat Cnf.holds
  refine List.all_eq_true.2 (fun c hc => ?_)
  obtain ⟨p, hp, rfl⟩ := List.mem_map.1 hc
  rw [val_asg _ _ (fun x hx => by rw [Tru.model_len]; exact hu p hp x hx)]
  obtain ⟨x, hx, ht⟩ := List.any_eq_true.1 (hS p hp)
  exact List.any_eq_true.2 ⟨x, hx, by rw [asg_code hτ n x (hu p hp x hx).1 (hu p hp x hx).2]; exact ht⟩
theorem of_sat {C : List (Int × List Int)} {n k : Nat} (h : Tru.sat (C.map (·.2)) n k = true) (hu : Upto n C) : SatC (asg (Tru.model n k)) C := by
  intro p hp
  have := List.all_eq_true.1 h _ (List.mem_map.2 ⟨p, hp, rfl⟩)
  rwa [val_asg _ _ (fun x hx => by rw [Tru.model_len]; exact hu p hp x hx)] at this
/-- What the checker keeps; has: the formula has a model. -/
structure Keeps (has : Bool) (S : St) : Prop where
  good : Good S.C S.last
  upto : Upto 10 S.C
  model : has = true → ∃ τ, Asn τ ∧ SatC τ S.C
  over : has = true → S.dn = false
  empty : S.dn = true → ∃ p ∈ S.C, p.2 = []
theorem vr_lit {x : Int} (h : x ≠ 0) : 1 ≤ Cnf.vr x := by unfold Cnf.vr; split <;> omega
theorem dropL_sub (ids : List Int) : ∀ (C : List (Int × List Int)), ∀ p ∈ dropL C ids, p ∈ C := by
  induction ids with
  | nil => intro C p hp; exact hp
  | cons i ids ih => intro C p hp; exact (List.mem_filter.1 (ih (drop1 C i) p hp)).1
/-- The formula's checker. -/
theorem keeps_new {u : Nat} {cs : List (List Int)} (hr : Cnf.right u cs = 0) (hu : u ≤ 8) (has : Bool) (h : has = true → ∃ k, Tru.sat cs u k = true) : Keeps has (new cs) := by
  obtain ⟨v0, v1, hcl, hfl, hlit⟩ := Go.Proofs.Ytjjanmgeogjngaa.right_zero hr
  have hup : ∀ p ∈ num 1 cs, ∀ x ∈ p.2, 1 ≤ Cnf.vr x ∧ Cnf.vr x ≤ u := fun p hp x hx => hlit x (List.mem_flatten.2 ⟨_, num_mem hp, hx⟩)
  have hmod : has = true → ∃ τ, Asn τ ∧ SatC τ (num 1 cs) := fun hh => by
    obtain ⟨k, hk⟩ := h hh
    exact ⟨asg (Tru.model u k), asg_asn _, holds_sat hk (fun x hx => by rw [Tru.model_len]; exact hlit x hx) 1⟩
  refine ⟨new_good hr, fun p hp x hx => by have := hup p hp x hx; omega, hmod, fun hh => ?_, fun hd => ?_⟩
  · obtain ⟨τ, _, hS⟩ := hmod hh
    unfold new
    simp only
    cases e : cs.any (fun c => c.isEmpty) with
    | false => rfl
    | true =>
      obtain ⟨c, hc, he⟩ := List.any_eq_true.1 e
      obtain ⟨j, hj⟩ := mem_num hc 1
      have := hS _ hj
      rw [List.isEmpty_iff.1 he] at this
      cases this
  · obtain ⟨c, hc, he⟩ := List.any_eq_true.1 (show cs.any (fun c => c.isEmpty) = true from hd)
    obtain ⟨j, hj⟩ := mem_num hc 1
    exact ⟨_, hj, List.isEmpty_iff.1 he⟩
theorem step_err {S : St} {s : Lra.Stp} (h : ¬ (stepP S s).1 = 0) : (stepP S s).2 = S := by
  unfold stepP at *
  by_cases h1 : Lra.may s = true
  · rw [if_pos h1] at h ⊢
    by_cases h2 : s.kind = 2
    · rw [if_pos h2] at h ⊢
      unfold remS at *
      by_cases h3 : remOK S.C s.hints = true
      · rw [if_pos h3] at h; exact absurd rfl h
      · rw [if_neg h3]
    · rw [if_neg h2] at h ⊢
      unfold addS at *
      simp only at h ⊢
      rw [if_neg h]
  · rw [if_neg h1]
/-- A step that is added: what is known of it. -/
theorem add_ok {S : St} {s : Lra.Stp} (h : (stepP S s).1 = 0) (hk : ¬ s.kind = 2) : (∀ x ∈ s.lits, x ≠ 0 ∧ -1048576 ≤ x ∧ x ≤ 1048576) ∧ followsF (look S.C) (all S.C) s.lits s.hints = 0 ∧ S.last < s.id ∧ s.id ≤ 4611686018427387903 ∧ (all S.C).length + s.lits.length ≤ 16777216 ∧ (stepP S s).2 = ⟨S.C ++ [(s.id, s.lits)], s.id, S.dn || s.lits.isEmpty⟩ ∧ s.kind = 1 := by
  unfold stepP at *
  by_cases h1 : Lra.may s = true
  · rw [if_pos h1, if_neg hk] at h ⊢
    have hk1 : s.kind = 1 := by rcases Go.Proofs.Ytjjanmgeogjngaa.may_kind h1 with h | h; exact h; exact absurd h hk
    unfold Lra.may at h1
    rw [if_pos hk1] at h1
    simp only [Bool.and_eq_true] at h1
    have hid1 : 1 ≤ s.id ∧ s.id ≤ 4611686018427387903 := by simpa [Lra.added] using h1.1
    unfold addS at *
    simp only at h ⊢
    rw [if_pos h]
    unfold addE at h
    by_cases c1 : s.id ≤ S.last
    · rw [if_pos c1] at h; cases h
    · rw [if_neg c1] at h
      by_cases c2 : followsF (look S.C) (all S.C) s.lits s.hints = 0
      · rw [if_pos c2] at h
        by_cases c3 : (16777216 : Int) - (all S.C).length < s.lits.length
        · rw [if_pos c3] at h; cases h
        · exact ⟨fun x hx => by have := List.all_eq_true.1 h1.2.1 x hx; simpa [Lra.literal] using this, c2, by omega, hid1.2, by omega, rfl, hk1⟩
      · rw [if_neg c2] at h; exact absurd h c2
  · rw [if_neg h1] at h; cases h
theorem keeps_step {has : Bool} {S : St} {s : Lra.Stp} (hK : Keeps has S) (hl : ∀ x ∈ s.lits, Cnf.vr x ≤ 10) (h : (stepP S s).1 = 0) (hdn : S.dn = true → False ∨ True) : Good (stepP S s).2.C (stepP S s).2.last ∧ Upto 10 (stepP S s).2.C ∧ (has = true → ∃ τ, Asn τ ∧ SatC τ (stepP S s).2.C) ∧ (has = true → (stepP S s).2.dn = false) := by
  by_cases hk : s.kind = 2
  · have e : ∃ C', (stepP S s).2 = ⟨C', S.last, S.dn⟩ ∧ (∀ p ∈ C', p ∈ S.C) ∧ Good C' S.last := by
      unfold stepP at *
      by_cases h1 : Lra.may s = true
      · rw [if_pos h1, if_pos hk] at h ⊢
        unfold remS at *
        by_cases h3 : remOK S.C s.hints = true
        · rw [if_pos h3]; exact ⟨_, rfl, dropL_sub _ _, hK.good.dropL s.hints⟩
        · rw [if_neg h3] at h; cases h
      · rw [if_neg h1] at h; cases h
    obtain ⟨C', e, hsub, hG⟩ := e
    rw [e]
    refine ⟨hG, fun p hp => hK.upto p (hsub p hp), fun hh => ?_, hK.over⟩
    obtain ⟨τ, hτ, hS⟩ := hK.model hh
    exact ⟨τ, hτ, fun p hp => hS p (hsub p hp)⟩
  · obtain ⟨h1, h2, h3, h4, h5, h6, _⟩ := add_ok h hk
    rw [h6]
    have hm : has = true → ∃ τ, Asn τ ∧ SatC τ (S.C ++ [(s.id, s.lits)]) := fun hh => by
      obtain ⟨τ, hτ, hS⟩ := hK.model hh
      obtain ⟨τ', hτ', hS', ha⟩ := follows_model hτ hK.good hS (fun x hx => (h1 x hx).1) h2
      refine ⟨τ', hτ', fun p hp => ?_⟩
      rcases List.mem_append.1 hp with hp | hp
      · exact hS' p hp
      · rw [List.mem_singleton.1 hp]; exact ha
    refine ⟨hK.good.snoc s.id s.lits h3 h4 h1 h5, fun p hp x hx => ?_, hm, fun hh => ?_⟩
    · rcases List.mem_append.1 hp with hp | hp
      · exact hK.upto p hp x hx
      · rw [List.mem_singleton.1 hp] at hx
        exact ⟨vr_lit (h1 x hx).1, hl x hx⟩
    · obtain ⟨τ, _, hS⟩ := hm hh
      simp only
      rw [hK.over hh, Bool.false_or]
      cases e : s.lits with
      | nil =>
        have := hS (s.id, s.lits) (by simp)
        rw [e] at this; cases this
      | cons x xs => rfl
/-- A step that is not the last one. -/
theorem keeps_on {has : Bool} {S : St} {s : Lra.Stp} (hK : Keeps has S) (hl : ∀ x ∈ s.lits, Cnf.vr x ≤ 10) (h : (stepP S s).1 = 0) (hd : (stepP S s).2.dn = false) : Keeps has (stepP S s).2 := by
  obtain ⟨h1, h2, h3, h4⟩ := keeps_step hK hl h (fun _ => .inr trivial)
  exact ⟨h1, h2, h3, h4, fun e => by rw [hd] at e; cases e⟩
/-- The last one: the formula has no model. -/
theorem keeps_done {has : Bool} {S : St} {s : Lra.Stp} (hK : Keeps has S) (hl : ∀ x ∈ s.lits, Cnf.vr x ≤ 10) (h : (stepP S s).1 = 0) (hd : (stepP S s).2.dn = true) : has = false := by
  obtain ⟨h1, h2, h3, h4⟩ := keeps_step hK hl h (fun _ => .inr trivial)
  cases has with
  | false => rfl
  | true => rw [h4 rfl] at hd; cases hd
/-- Without groups: what stood had none. -/
theorem keeps_plain {has : Bool} {S : St} {s : Lra.Stp} (hK : Keeps has S) (h : (stepP S s).1 = 0) (hk : s.kind = 1) (hp : s.hints.all Lra.above = true) (hd : (stepP S s).2.dn = true) : ∀ k, Tru.sat (S.C.map (·.2)) 10 k = false := by
  intro k
  cases e : Tru.sat (S.C.map (·.2)) 10 k with
  | false => rfl
  | true =>
    exfalso
    have hS := of_sat e hK.upto
    cases hdn : S.dn with
    | true =>
      obtain ⟨p, hp, he⟩ := hK.empty hdn
      have := hS p hp
      rw [he] at this; cases this
    | false =>
      obtain ⟨h1, h2, h3, h4, h5, h6, _⟩ := add_ok h (by omega)
      rw [h6] at hd
      simp only [hdn, Bool.false_or] at hd
      have hn := List.isEmpty_iff.1 hd
      rw [hn] at h2
      have := follows_plain (asg_asn (Tru.model 10 k)) (hS.sat hK.good) (fun x hx => by cases hx) h2 hp (fun h => by simp at h)
      cases this
/-- The clauses that stand are a formula of ten variables. -/
theorem taken_ten {C : List (Int × List Int)} {last : Int} (hG : Good C last) (hu : Upto 10 C) (hl : C.length ≤ 1048576) : Tru.taken 10 (C.map (·.2)) = 0 := by
  have hf : (C.map (·.2)).flatten = all C := by unfold all; rw [List.flatMap_def]
  have hr : Cnf.right 10 (C.map (·.2)) = 0 := by
    unfold Cnf.right
    rw [if_neg (by omega), if_neg (by rw [List.length_map]; omega), hf]
    have : ∀ (ls : List Int) (c : Nat), c + ls.length ≤ 16777216 → (∀ x ∈ ls, 1 ≤ Cnf.vr x ∧ Cnf.vr x ≤ 10) → Cnf.scan 10 c ls = 0 := by
      intro ls
      induction ls with
      | nil => intro c _ _; rfl
      | cons l ls ih =>
        intro c hc hx
        have h1 := hx l (by simp)
        rw [Cnf.scan_on 10 c l ls (by simp at hc; omega) (by omega)]
        exact ih (c + 1) (by simp at hc; omega) (fun x hx' => hx x (List.mem_cons_of_mem _ hx'))
    refine this _ 0 (by have := hG.few; omega) (fun x hx => ?_)
    obtain ⟨p, hp, hx⟩ := List.mem_flatMap.1 hx
    exact hu p hp x hx
  unfold Tru.taken
  rw [hr, if_pos rfl, if_neg (by omega)]
end Ckr

/- The clauses that stand, as a formula of ten variables: the call. -/
namespace Go.Proofs.Ytjjanmgeogjngaa
open Go.RowKit Go.Maps
set_option linter.unusedVariables false

theorem info39 : (Try.prog.info? 39).map (fun i => (i.zero, i.size, i.bytes)) = some (some (.slice none 0 0), 1, 24) := by kernel_rfl
/-- Clauses in a row of one's own, each in a row of its own. -/
structure Cm (n : Nat) (W : World) (v : Value) (xs : List (List Int)) (vs : List Value) : Prop where
  len : vs.length = xs.length
  row : W.ownsRow n 39 1 v xs.length vs
  each : ∀ i, i < xs.length → W.ownsRow n 40 1 (vs.getD i undef) (xs.getD i []).length ((xs.getD i []).map (Value.int .i32))
theorem Cm.nil (n : Nat) (W : World) : Cm n W (.slice none 0 0) [] [] := ⟨rfl, World.ownsRow_nil _ _ _ _, fun i hi => by simp at hi⟩
theorem Cm.keep {n : Nat} {W W' : World} {v : Value} {xs : List (List Int)} {vs : List Value} (h : Cm n W v xs vs) (hk : ∀ (g : Nat) (cs : Array Value) (ty : TypeId), (ty = 39 ∨ ty = 40) → W.heap[g]? = some (.cells cs ty (0, 0)) → W'.heap[g]? = W.heap[g]?) : Cm n W' v xs vs :=
  ⟨h.len, own_keep h.row (fun g cs _ hg => hk g cs _ (.inl rfl) hg), fun i hi => own_keep (h.each i hi) (fun g cs _ hg => hk g cs _ (.inr rfl) hg)⟩
theorem Cm.below {n : Nat} {W W' : World} {v : Value} {xs : List (List Int)} {vs : List Value} (h : Cm n W v xs vs) (hb : Below W.heap.size W W') : Cm n W' v xs vs := h.keep (fun g cs ty _ hg => hb.block g (Array.getElem?_eq_some_iff.1 hg).1)
theorem Cm.cls {n : Nat} {W : World} {v : Value} {xs : List (List Int)} {vs : List Value} (h : Cm n W v xs vs) (hl : ∀ c ∈ xs, c.length ≤ 16777216 ∧ ∀ x ∈ c, -2147483648 ≤ x ∧ x ≤ 2147483647) : ∃ a c, v = .slice a xs.length c ∧ Cls W a xs := by
  obtain ⟨a, c, rfl⟩ := own_slc h.row
  refine ⟨a, c, rfl, fun c hc => by have := (hl c hc).1; omega, ?_⟩
  rcases h.row.2 with ⟨_, h0⟩ | ⟨g, cap, cur, e1, hb, hg, hnc, hcm, hcs, htk⟩
  · exact .inl (List.eq_nil_of_length_eq_zero h0)
  · cases e1
    refine .inr ⟨g, 0, rfl, (Array.getElem?_eq_some_iff.1 hg).1, fun j hj => ?_⟩
    have he := h.each j hj
    obtain ⟨a', c', e⟩ := own_slc he
    refine ⟨a', c', ?_, own_row (e ▸ he) (hl _ (Cnf.getD_cls xs j hj)).2⟩
    rw [Nat.zero_add, row_cell hg j, ← e]
    have e2 : (cur.toList.take (xs.length * 1))[j]? = cur.toList[j]? := List.getElem?_take_of_lt (by omega)
    rw [htk] at e2
    rw [← Array.getElem?_toList, ← e2]
    have hjv : j < vs.length := by rw [h.len]; exact hj
    simp [List.getD, List.getElem?_eq_getElem hjv]
/-- A clause more. -/
theorem Cm.push {n : Nat} {W : World} {v : Value} {xs : List (List Int)} {vs : List Value} (h : Cm n W v xs vs) (c : List Int) (u : Value) (hu : W.ownsRow n 40 1 u c.length (c.map (Value.int .i32))) (hl : xs.length ≤ 1048576) (hb : n ≤ W.heap.size) :
    ∃ a k B, (Builtin.append_ #[22, 22] 22 #[v, .slice (some ⟨W.heap.size, 0, none⟩) 1 1]).run Try.prog (W.alloc (.cells #[u] 39)) = .ok (.slice a (xs.length + 1) k) B ∧ Cm n B (.slice a (xs.length + 1) k) (xs ++ [c]) (vs ++ [u]) ∧
      (∀ g, g < W.heap.size → v.ownBlock ≠ some g → B.heap[g]? = W.heap[g]?) ∧ W.heap.size ≤ B.heap.size ∧ B.os = W.os ∧ B.tape = W.tape ∧ B.output = W.output := by
  obtain ⟨i0, hi, hz⟩ := Option.map_eq_some_iff.1 info39
  simp only [Prod.mk.injEq] at hz
  have h01 := below_box W (.cells #[u] 39)
  have hM := heap_alloc_new W (.cells #[u] 39)
  have hs1 : (W.alloc (.cells #[u] 39)).heap.size = W.heap.size + 1 := by simp
  generalize W.alloc (.cells #[u] 39) = W1 at h01 hM hs1
  obtain ⟨v2, B, hr, ho2, hg, _, hat⟩ := run_append_own_at (P := Try.prog) W1 n 22 22 39 i0 _ 1 24 Try.underlying22 hi hz.1 hz.2.1 hz.2.2 rfl (by decide) v xs.length vs (own_below h.row h01) ⟨W.heap.size, 0, none⟩ 1 1 [u] rfl (fun j w hw => by
    match j, hw with
    | 0, hw => rw [show (⟨W.heap.size, 0, none⟩ : Addr).add 0 = ⟨W.heap.size, 0, none⟩ from rfl, row_cell hM 0]; exact hw
    | j + 1, hw => simp at hw) (by intro w hw; simp at hw; subst hw; exact own_one hu) (by simp [maxLen]; omega) (by omega) (by omega)
  obtain ⟨a, k, rfl⟩ := own_slc ho2
  have keep : ∀ g, g < W.heap.size → v.ownBlock ≠ some g → B.heap[g]? = W.heap[g]? := fun g hgl hne => (hg.block g (by omega) (fun e => hne e.symm)).trans (h01.block g hgl)
  have keep40 : ∀ (g : Nat) (cs : Array Value), W.heap[g]? = some (.cells cs 40 (0, 0)) → B.heap[g]? = W.heap[g]? := fun g cs hgc => keep g (Array.getElem?_eq_some_iff.1 hgc).1 (own_ne hgc h.row (by decide))
  refine ⟨a, k, B, hr, ⟨by simp [h.len], by simpa using ho2, fun i hi => ?_⟩, keep, by have := hg.size; omega, hg.os.trans h01.os, hg.tape.trans h01.tape, hg.output.trans h01.output⟩
  rcases Nat.lt_or_ge i xs.length with h1 | h1
  · have e1 : (xs ++ [c]).getD i [] = xs.getD i [] := by simp [List.getD, List.getElem?_append_left h1]
    have e2 : (vs ++ [u]).getD i undef = vs.getD i undef := by simp [List.getD, List.getElem?_append_left (show i < vs.length by rw [h.len]; exact h1)]
    rw [e1, e2]
    exact own_keep (h.each i h1) (fun g cs _ hgc => keep40 g cs hgc)
  · obtain rfl : i = xs.length := by simp at hi; omega
    have e1 : (xs ++ [c]).getD xs.length [] = c := by simp [List.getD]
    have e2 : (vs ++ [u]).getD xs.length undef = u := by rw [← h.len]; simp [List.getD]
    rw [e1, e2]
    exact own_keep hu (fun g cs _ hgc => keep40 g cs hgc)
def StandsOut (w : World) (cs : List (List Int)) (e : Ending) (w' : World) : Prop := ∃ a c vs, e = .returned (.agg #[.int .i64 10, .slice a cs.length c]) ∧ Cm w.heap.size w' (.slice a cs.length c) cs vs ∧ Below w.heap.size w w'

set_option maxRecDepth 100000 in
set_option maxHeartbeats 4000000 in
theorem stands25 {n0 cb bm : Nat} {t r : Option Nat} {k : Nat} {w : World} {C : List (Int × List Int)} {last : Int} {dn : Bool} (hC : Ck n0 cb bm t r k w C last dn) (hk : k ≤ 1048576) (hcl : C.length ≤ 1048576) :
    Calls Try.prog 25 #[.pointer (some ⟨cb, 0, none⟩)] w fun e w' => StandsOut w (C.map (·.2)) e w' := by
  have HC := hid hC
  obtain ⟨n, hn⟩ : ∃ n, C.length = n := ⟨_, rfl⟩
  have HN := hid hn
  rw [hn] at hcl
  clear hC hn
  go_enter Try.func25, Try.ntmps25
  go_wp2_with fail
  have hB := (below_box w (.cells #[.int .i64 0, .slice none 0 0] 24)).trans ((below_box (w.alloc (.cells #[.int .i64 0, .slice none 0 0] 24)) (.cells #[.int .i64 10, .slice none 0 0] 24)).mono (by simp))
  have hr0 : ((w.alloc (.cells #[.int .i64 0, .slice none 0 0] 24)).alloc (.cells #[.int .i64 10, .slice none 0 0] 24)).heap[w.heap.size]? = some (.cells #[.int .i64 0, .slice none 0 0] 24 (0, 0)) := by simp only [alloc_at, World.size_alloc]; rw [if_neg (by omega), if_pos trivial]
  have hf0 : ((w.alloc (.cells #[.int .i64 0, .slice none 0 0] 24)).alloc (.cells #[.int .i64 10, .slice none 0 0] 24)).heap[w.heap.size + 1]? = some (.cells #[.int .i64 10, .slice none 0 0] 24 (0, 0)) := by simp only [alloc_at, World.size_alloc]; rw [if_pos trivial]
  generalize (w.alloc (.cells #[.int .i64 0, .slice none 0 0] 24)).alloc (.cells #[.int .i64 10, .slice none 0 0] 24) = W0 at *
  have C35 := hid ((HC.out.below hB).live hk)
  unfold KeysOut at C35
  rw [List.length_map, HN.out] at C35
  have HB := hid hB
  have HR0 := hid hr0
  have HF0 := hid hf0
  clear hB hr0 hf0
  go_at_call 35
  refine C35.out.mono ?_
  clear C35
  rintro e W2 ⟨ai, ci, rfl, hoi, hB2⟩
  have HIds := hid (own_base (base' := w.heap.size) hoi HB.out.size)
  have HIB := hid (fun x (hx : x ∈ C.map (·.1)) => show -9223372036854775808 ≤ x ∧ x ≤ 9223372036854775807 by
    obtain ⟨p, hp, rfl⟩ := List.mem_map.1 hx
    have := HC.out.good.ids p hp
    have := HC.out.good.last_
    omega)
  have HB2 := hid (HB.out.trans (hB2.mono HB.out.size))
  have hz1 : w.heap.size + 1 < W0.heap.size := (Array.getElem?_eq_some_iff.1 HF0.out).1
  have HR2 : Hid (W2.heap[w.heap.size]? = some (.cells #[.int .i64 0, .slice none 0 0] 24 (0, 0))) := (hB2.block _ (by omega)).trans HR0.out
  have HF2 : Hid (W2.heap[w.heap.size + 1]? = some (.cells #[.int .i64 10, .slice none 0 0] 24 (0, 0))) := (hB2.block _ (by omega)).trans HF0.out
  have HS2 := hid hB2.size
  clear hB2 hoi HR0 HF0 HB
  go_wp2
  go_loopw [5] (fun i wr => ∃ (q : Nat) (v : Value) (vs : List Value), i = .int .i64 q ∧ q ≤ n ∧ Hid (Below w.heap.size w wr) ∧ Hid (wr.heap[w.heap.size + 1]? = some (.cells #[.int .i64 10, v] 24 (0, 0)) ∧ wr.heap[w.heap.size]? = some (.cells #[.int .i64 0, .slice none 0 0] 24 (0, 0))) ∧ Hid (Cm w.heap.size wr v ((C.map (·.2)).take q) vs) ∧ Hid (wr.ownsRow w.heap.size 2 1 (.slice ai n ci) n ((C.map (·.1)).map (Value.int .i64)))) (fun i _ => n - (intOf i).toNat)
  case atStart => exact ⟨0, .slice none 0 0, [], rfl, Nat.zero_le _, HB2, hid ⟨HF2.out, HR2.out⟩, hid (Cm.nil _ _), HIds⟩
  case round =>
    obtain ⟨q, v, vs, rfl, hq, HBe, HFr, HCm, HH⟩ := hrel
    by_cases hlt : q < n
    · have hlt' : (q : Int) < n := by omega
      have hql : q < (C.map (·.1)).length := by rw [List.length_map, HN.out]; exact hlt
      have hqc : q < C.length := by rw [HN.out]; exact hlt
      have hHn : Hnts wr ai (C.map (·.1)) := own_row (by rw [List.length_map, HN.out]; exact HH.out) HIB.out
      obtain ⟨bi, oi, rfl, _, hci, hi1, hi2⟩ := Row.at hHn (j := q) hql
      have hget : (C.map (·.1)).getD q 0 = C[q].1 := by simp [List.getD, hqc]
      have hlook : Ckr.look C C[q].1 = some C[q].2 := Ckr.look_of_mem HC.out.good.sorted (List.getElem_mem hqc)
      have C37 := hid ((HC.out.below HBe.out).get ((C.map (·.1)).getD q 0) ⟨hi1, hi2⟩)
      rw [hget] at hci C37
      rw [hlook] at C37
      have HTk := hid (show (C.map (·.2)).take (q + 1) = (C.map (·.2)).take q ++ [C[q].2] by rw [List.take_succ_eq_append_getElem (by simpa using hqc)]; simp)
      unfold GetOut at C37
      simp only [Option.getD_some, Option.isSome_some] at C37
      have hlenT : ((C.map (·.2)).take q).length = q := by simp; omega
      have HLT := hid hlenT
      generalize C[q].1 = id at hci C37
      generalize C[q].2 = xs at C37 HTk
      clear hlook hget hlenT
      go_wp2_with fail
      go_at_call 37
      refine C37.out.mono ?_
      clear C37
      rintro e W5 ⟨a5, c5, rfl, ho5, hB5⟩
      have hB15 := HBe.out.trans (hB5.mono HBe.out.size)
      have hf5 : W5.heap[w.heap.size + 1]? = some (.cells #[.int .i64 10, v] 24 (0, 0)) := (hB5.block _ (Array.getElem?_eq_some_iff.1 HFr.out.1).1).trans HFr.out.1
      have hr5 : W5.heap[w.heap.size]? = some (.cells #[.int .i64 0, .slice none 0 0] 24 (0, 0)) := (hB5.block _ (Array.getElem?_eq_some_iff.1 HFr.out.2).1).trans HFr.out.2
      have y5 : W5.cell? ⟨w.heap.size + 1, 1, none⟩ = some v := row_cell hf5 1
      obtain ⟨a6, k6, W6, hrun, hCm6, hkeep, hsz6, hos6, htp6, hou6⟩ := (HCm.out.below hB5).push xs _ (own_base ho5 HBe.out.size) (by rw [HLT.out]; omega) hB15.size
      rw [HLT.out] at hrun hCm6
      have RUN := hid hrun
      have hvo : v.ownBlock ≠ some (w.heap.size + 1) := own_ne hf5 (HCm.out.below hB5).row (by decide)
      have hvo2 : v.ownBlock ≠ some w.heap.size := own_ne hr5 (HCm.out.below hB5).row (by decide)
      have hf6 : W6.heap[w.heap.size + 1]? = some (.cells #[.int .i64 10, v] 24 (0, 0)) := (hkeep _ (Array.getElem?_eq_some_iff.1 hf5).1 hvo).trans hf5
      have hr6 : W6.heap[w.heap.size]? = some (.cells #[.int .i64 0, .slice none 0 0] 24 (0, 0)) := (hkeep _ (Array.getElem?_eq_some_iff.1 hr5).1 hvo2).trans hr5
      have y6 : W6.cell? ⟨w.heap.size + 1, 1, none⟩ = some v := row_cell hf6 1
      have f6 := row_frozen hf6 1
      have HX := hid (And.intro hB15 (And.intro hf6 (And.intro hr6 (And.intro hCm6 (And.intro hkeep (And.intro hsz6 (And.intro hos6 (And.intro htp6 hou6))))))))
      have HV5 := hid (And.intro (HCm.out.below hB5).row (own_below HH.out hB5))
      clear hrun hCm6 hkeep hsz6 hos6 htp6 hou6 hf5 hr5 hf6 hr6 hvo hvo2 ho5 hB5 hB15
      go_wp2_with (at_builtin; refine wpList_append_run rfl (.tmp 27) (.tmp 29) 22 22 rfl rfl rfl RUN.out ?_)
      go_roundw
      case rel =>
        obtain ⟨hB15, hf6, hr6, hCm6, hkeep, hsz6, hos6, htp6, hou6⟩ := HX.out
        have hne : ∀ (g : Nat) (cs : Array Value) (ty : TypeId), ty ≠ 24 → W6.heap[g]? = some (.cells cs ty (0, 0)) → g ≠ w.heap.size + 1 := by
          rintro g cs ty ht hg rfl; rw [hf6] at hg; injection hg with e1; injection e1 with _ e2; exact ht e2.symm
        refine ⟨q + 1, .slice a6 (q + 1) k6, _, by go_num, by omega, hid ?_, hid ⟨heap_set_row hf6 _, (heap_other _ _ (by omega)).trans hr6⟩, hid (by rw [HTk.out]; exact hCm6.keep (fun g cs ty ht hg => heap_other _ _ (hne g cs ty (by rcases ht with rfl | rfl <;> decide) hg))), hid ?_⟩
        · refine ⟨hos6.trans hB15.os, htp6.trans hB15.tape, hou6.trans hB15.output, by simp; have := hB15.size; omega, fun g hg => ?_⟩
          rw [heap_other _ _ (by omega), hkeep g (by have := hB15.size; omega) (fun e => by have := (HV5.out.1.lt g e).1; omega)]
          exact hB15.block g hg
        · refine own_keep HV5.out.2 (fun g cs hg hgc => ?_)
          have e6 := hkeep g (Array.getElem?_eq_some_iff.1 hgc).1 (own_ne hgc HV5.out.1 (by decide))
          rw [heap_other _ _ (hne g cs _ (by decide) (e6.trans hgc)), e6]
      case measure => simp [intOf]; omega
    · have hge : ¬ (q : Int) < n := by omega
      obtain ⟨hfb, hrb⟩ := HFr.out
      have y0 : wr.cell? ⟨w.heap.size + 1, 0, none⟩ = some (.int .i64 10) := row_cell hfb 0
      have y1 : wr.cell? ⟨w.heap.size + 1, 1, none⟩ = some v := row_cell hfb 1
      have z0 : wr.cell? ⟨w.heap.size, 0, none⟩ = some (.int .i64 0) := row_cell hrb 0
      have z1 : wr.cell? ⟨w.heap.size, 1, none⟩ = some (.slice none 0 0) := row_cell hrb 1
      have f0 := row_frozen hrb 0
      have f1 := row_frozen hrb 1
      have HRB := hid hrb
      have HCl : Hid (Cm w.heap.size wr v (C.map (·.2)) vs) := by
        have h := HCm.out
        rw [List.take_of_length_le (by rw [List.length_map, HN.out]; omega)] at h
        exact h
      obtain ⟨av, cv, rfl, hcls⟩ := HCl.out.cls (fun c hc => by
        obtain ⟨p, hp, rfl⟩ := List.mem_map.1 hc
        refine ⟨by have := Ckr.len_all hp; have := HC.out.good.few; omega, fun x hx => ?_⟩
        have := HC.out.good.lits x (Ckr.mem_all hp x hx)
        omega)
      have HOut : Hid (∀ e, e = .returned (.agg #[.int .i64 10, .slice av (C.map (·.2)).length cv]) → StandsOut w (C.map (·.2)) e ((wr.setCell ⟨w.heap.size, 0, none⟩ (.int .i64 10)).setCell ⟨w.heap.size, 1, none⟩ (.slice av (C.map (·.2)).length cv))) := by
        intro e he
        refine ⟨av, cv, vs, he, ?_, ?_⟩
        · have hne : ∀ (g : Nat) (cs : Array Value) (ty : TypeId), ty ≠ 24 → wr.heap[g]? = some (.cells cs ty (0, 0)) → g ≠ w.heap.size := by
            rintro g cs ty ht hg rfl; rw [hrb] at hg; injection hg with e1; injection e1 with _ e2; exact ht e2.symm
          exact HCl.out.keep (W' := (wr.setCell ⟨w.heap.size, 0, none⟩ (.int .i64 10)).setCell ⟨w.heap.size, 1, none⟩ (.slice av (C.map (·.2)).length cv)) (fun g cs ty ht hg => by
            have := hne g cs ty (by rcases ht with rfl | rfl <;> decide) hg
            rw [heap_other _ _ this, heap_other _ _ this])
        · exact (HBe.out.setCell (p := ⟨w.heap.size, 0, none⟩) (Nat.le_refl _) _).setCell (p := ⟨w.heap.size, 1, none⟩) (Nat.le_refl _) _
      generalize (C.map (·.2)).length = nc at *
      clear hfb hrb hcls
      go_wp2
      refine bodyPost_ret (results_cell_row rfl _ _ w.heap.size 24 _ (0, 0) _ rfl (heap_set_row (heap_set_row HRB.out _) _) Try.underlying24 rfl (by kernel_rfl)) rfl ?_
      exact HOut.out _ rfl
end Go.Proofs.Ytjjanmgeogjngaa

/- Has a formula at most 8 variables, and a proof none above 10? -/
namespace Go.Proofs.Ytjjanmgeogjngaa
open Go.RowKit
set_option linter.unusedVariables false

def SmlOut (vars : Int) (ss : List Lra.Stp) (e : Ending) : Prop := ∃ b, e = .returned (.bool b) ∧ (b = true → vars ≤ 8 ∧ ∀ s ∈ ss, ∀ x ∈ s.lits, Cnf.vr x ≤ 10)
set_option maxRecDepth 100000 in
set_option maxHeartbeats 4000000 in
theorem small23 (vars : Int) (a : Option Addr) (n c : Nat) (al : Option Addr) (nl cl : Nat) (ss : List Lra.Stp) (w : World) (hnl : ss.length = nl) (hbl : nl ≤ 35184372088832) (hs : Steps w al ss) :
    Calls Try.prog 23 #[.agg #[.int .i64 vars, .slice a n c], .slice al nl cl] w fun e w' => SmlOut vars ss e ∧ Below w.heap.size w w' := by
  have hB := below_box w (.cells #[.int .i64 vars, .slice a n c] 24)
  have hx := heap_alloc_new w (.cells #[.int .i64 vars, .slice a n c] 24)
  generalize hW1 : w.alloc (.cells #[.int .i64 vars, .slice a n c] 24) = W1 at hB hx
  have x0 : W1.cell? ⟨w.heap.size, 0, none⟩ = some (.int .i64 vars) := row_cell hx 0
  have HS := hid (hs.below hB)
  have sh := (hs.below hB).shape
  rw [hnl] at sh
  have HN := hid hnl
  have HB := hid hB
  clear hs hx hB hnl
  rcases sh with Z | ⟨b, off, rfl⟩
  all_goals
    go_enter Try.func23, Try.ntmps23
    go_wp2
    go_loop [5] (fun i => ∃ k : Nat, i = .int .i64 k ∧ k ≤ nl ∧ Hid (∀ s ∈ ss.take k, ∀ x ∈ s.lits, Cnf.vr x ≤ 10)) (fun i => nl - (intOf i).toNat)
    case atStart => exact ⟨0, rfl, by omega, hid (fun s hs => by simp at hs)⟩
    case round =>
      obtain ⟨k, rfl, hk, HK⟩ := hrel
      by_cases hlt : k < nl
      · have hlt' : (k : Int) < nl := by omega
        first
        | (exfalso; have := Z.out; omega)
        | (have hks : k < ss.length := by rw [HN.out]; exact hlt
           obtain ⟨a1, c1, a2, c2, hst⟩ := HS.out.at (j := k) hks
           have HT := hid (show ss.take (k + 1) = ss.take k ++ [ss[k]] from List.take_succ_eq_append_getElem hks)
           obtain ⟨_, _, x2, _, hv⟩ := hst
           have HL := hid hv.l
           have hn1 := hv.n.1
           generalize ss[k] = s at x2 HT HL hn1
           generalize hlen : s.lits.length = n1 at x2 hn1
           have HLen := hid hlen
           clear hv hlen
           go_wp2
           go_loop [6] (fun i => ∃ q : Nat, i = .int .i64 q ∧ q ≤ n1 ∧ Hid (∀ x ∈ s.lits.take q, Cnf.vr x ≤ 10)) (fun i => n1 - (intOf i).toNat)
           case atStart => exact ⟨0, rfl, by omega, hid (fun x hx => by simp at hx)⟩
           case round =>
             obtain ⟨q, rfl, hq, HQ⟩ := hrel
             by_cases hlq : q < n1
             · have hlq' : (q : Int) < n1 := by omega
               obtain ⟨b1, o1, rfl, _, hc, h1, h2⟩ := Row.at HL.out (j := q) (by rw [HLen.out]; exact hlq)
               have HT2 := hid (Lra.take_snoc s.lits q (by rw [HLen.out]; exact hlq))
               generalize s.lits.getD q 0 = x at hc h1 h2 HT2
               have C := hid (var49 x W1 h1 h2)
               by_cases t : (10 : Int) < Cnf.vr x
               · generalize Cnf.vr x = v at C t
                 go_wp2_with (go_at_call 49; refine C.out.mono ?_; clear C; rintro e W ⟨rfl, rfl⟩)
                 go_ret
                 exact ⟨⟨false, rfl, fun h => by cases h⟩, HB.out⟩
               · have HQ2 := hid (show ∀ y ∈ s.lits.take (q + 1), Cnf.vr y ≤ 10 by
                   rw [HT2.out]
                   intro y hy
                   rcases List.mem_append.1 hy with hy | hy
                   · exact HQ.out y hy
                   · rw [List.mem_singleton.1 hy]; omega)
                 generalize Cnf.vr x = v at C t
                 go_wp2_with (go_at_call 49; refine C.out.mono ?_; clear C; rintro e W ⟨rfl, rfl⟩)
                 go_round
                 case rel => exact ⟨q + 1, by go_num, by omega, HQ2⟩
                 case measure => simp [intOf]; omega
             · have hlq' : ¬ (q : Int) < n1 := by omega
               have HK2 := hid (show ∀ s' ∈ ss.take (k + 1), ∀ x ∈ s'.lits, Cnf.vr x ≤ 10 by
                 rw [HT.out]
                 intro s' hs'
                 rcases List.mem_append.1 hs' with hs' | hs'
                 · exact HK.out s' hs'
                 · rw [List.mem_singleton.1 hs']
                   have := HQ.out
                   rwa [List.take_of_length_le (by rw [HLen.out]; omega)] at this)
               go_wp2
               go_round
               case rel => exact ⟨k + 1, by go_num, by omega, HK2⟩
               case measure => simp [intOf]; omega)
      · have hlt' : ¬ (k : Int) < nl := by omega
        have HA := hid (show ∀ s ∈ ss, ∀ x ∈ s.lits, Cnf.vr x ≤ 10 by
          have := HK.out
          rwa [List.take_of_length_le (by rw [HN.out]; omega)] at this)
        go_wp2
        go_ret
        exact ⟨⟨_, rfl, fun h => ⟨by simpa using h, HA.out⟩⟩, HB.out⟩
end Go.Proofs.Ytjjanmgeogjngaa

/- If a formula has a model, so have the clauses that stand: the call. -/
namespace Go.Proofs.Ytjjanmgeogjngaa
open Go.RowKit
set_option linter.unusedVariables false

theorem Ck.lts {n0 cb bm : Nat} {t r : Option Nat} {k : Nat} {W : World} {C : List (Int × List Int)} {last : Int} {dn : Bool} (h : Ck n0 cb bm t r k W C last dn) : cb < W.heap.size ∧ bm < W.heap.size ∧ (∀ g, t = some g → g < W.heap.size) ∧ (∀ g, r = some g → g < W.heap.size) := by
  obtain ⟨f, tm, at3, ct3, hA, hS, ho, ht, hT⟩ := h.mem
  obtain ⟨vv, vr, hc⟩ := hA.blk
  exact ⟨(Array.getElem?_eq_some_iff.1 hc).1, hS.map.lt, fun g hg => (h.facts.2.2.1 g hg).2, fun g hg => (h.facts.2.2.2.1 g hg).2⟩
/-- Clauses that were laid behind the checker stay. -/
theorem Cm.fp {m n0 cb bm : Nat} {t r : Option Nat} {k : Nat} {W0 W W' : World} {C : List (Int × List Int)} {last : Int} {dn : Bool} {v : Value} {xs : List (List Int)} {vs : List Value} (h : Cm m W v xs vs) (hC : Ck n0 cb bm t r k W0 C last dn) (hm : W0.heap.size ≤ m) (hF : Fp n0 cb bm t r W W') : Cm m W' v xs vs := by
  obtain ⟨h1, h2, h3, h4⟩ := hC.lts
  refine ⟨h.len, own_keep h.row (fun g cs hg hgc => ?_), fun i hi => own_keep (h.each i hi) (fun g cs hg hgc => ?_)⟩
  · have hge := (h.row.lt g hg).1
    exact hF.block g (Array.getElem?_eq_some_iff.1 hgc).1 (by omega) (by omega) (fun e => by have := h3 g e.symm; omega) (fun e => by have := h4 g e.symm; omega) (fun _ cs' fr e => by rw [hgc] at e; injection e with e1; injection e1 with _ e2; cases e2)
  · have hge := ((h.each i hi).lt g hg).1
    exact hF.block g (Array.getElem?_eq_some_iff.1 hgc).1 (by omega) (by omega) (fun e => by have := h3 g e.symm; omega) (fun e => by have := h4 g e.symm; omega) (fun _ cs' fr e => by rw [hgc] at e; injection e with e1; injection e1 with _ e2; cases e2)
theorem good_cls {C : List (Int × List Int)} {last : Int} (hG : Ckr.Good C last) : ∀ c ∈ C.map (·.2), c.length ≤ 16777216 ∧ ∀ x ∈ c, -2147483648 ≤ x ∧ x ≤ 2147483647 := by
  intro c hc
  obtain ⟨p, hp, rfl⟩ := List.mem_map.1 hc
  refine ⟨by have := Ckr.len_all hp; have := hG.few; omega, fun x hx => ?_⟩
  have := hG.lits x (Ckr.mem_all hp x hx)
  omega
theorem good_flat {C : List (Int × List Int)} {last : Int} (hG : Ckr.Good C last) : (C.map (·.2)).flatten.length ≤ 16777216 := by
  have : (C.map (·.2)).flatten = Ckr.all C := by unfold Ckr.all; rw [List.flatMap_def]
  rw [this]; exact hG.few
/-- How many clauses a checker may have. -/
theorem step_len {S : Ckr.St} {s : Lra.Stp} : (Ckr.stepP S s).2.C.length ≤ S.C.length + 1 := by
  have hd : ∀ (ids : List Int) (C : List (Int × List Int)), (Ckr.dropL C ids).length ≤ C.length := by
    intro ids
    induction ids with
    | nil => intro C; exact Nat.le_refl _
    | cons i ids ih => intro C; exact Nat.le_trans (ih (Ckr.drop1 C i)) (List.length_filter_le _ _)
  unfold Ckr.stepP
  by_cases h1 : Lra.may s = true
  · rw [if_pos h1]
    by_cases h2 : s.kind = 2
    · rw [if_pos h2]
      unfold Ckr.remS
      by_cases h3 : Ckr.remOK S.C s.hints = true
      · rw [if_pos h3]; have := hd s.hints S.C; simp only; omega
      · rw [if_neg h3]; simp
    · rw [if_neg h2]
      unfold Ckr.addS
      simp only
      by_cases h3 : Ckr.addE S.C S.last s = 0
      · rw [if_pos h3]; simp
      · rw [if_neg h3]; omega
  · rw [if_neg h1]; simp

theorem num_len (cs : List (List Int)) : ∀ i, (Ckr.num i cs).length = cs.length := by
  induction cs with
  | nil => intro i; rfl
  | cons c cs ih => intro i; simp [Ckr.num, ih]

set_option maxRecDepth 100000 in
set_option maxHeartbeats 16000000 in
theorem law5 (vars : Int) (a : Option Addr) (n c : Nat) (cs : List (List Int)) (al : Option Addr) (nl cl : Nat) (ss : List Lra.Stp) (w : World) (hn : cs.length = n) (hb : n ≤ 8796093022208) (hc : Cls w a cs) (hnl : ss.length = nl) (hbl : nl ≤ 2199023255552) (hs : StepsC w al ss) :
    Calls Try.prog 5 #[.agg #[.int .i64 vars, .slice a n c], .slice al nl cl] w fun e w' => TrueOut w e w' := by
  have hB := below_box w (.cells #[.int .i64 vars, .slice a n c] 24)
  have hx := heap_alloc_new w (.cells #[.int .i64 vars, .slice a n c] 24)
  generalize hW1 : w.alloc (.cells #[.int .i64 vars, .slice a n c] 24) = W1 at hB hx
  have x0 : W1.cell? ⟨w.heap.size, 0, none⟩ = some (.int .i64 vars) := row_cell hx 0
  have x1 : W1.cell? ⟨w.heap.size, 1, none⟩ = some (.slice a n c) := row_cell hx 1
  have HX := hid (Array.getElem?_eq_some_iff.1 hx).1
  have HC := hid (hc.below hB)
  have HS := hid (hs.below hB)
  have HN := hid hn
  have HB := hid hB
  have HNL := hid hnl
  have C10 := hid works10
  have C9 := hid (large9 vars a n c cs al nl cl ss W1 hn (by omega) (hc.below hB) hnl (by omega) (hs.below hB).steps)
  have HDone := hid (fun W5 (h : Below W1.heap.size W1 W5) W6 (h6 : Below W5.heap.size W5 W6) => show TrueOut w (.returned (.bool true)) W6 from ⟨rfl, (HB.out.trans (h.mono HB.out.size)).trans (h6.mono (Nat.le_trans HB.out.size h.size))⟩)
  clear hc hs hn hB hx hnl
  go_enter Try.func5, Try.ntmps5
  go_wp2_with fail
  go_at_call 9
  refine C9.out.mono ?_
  clear C9
  rintro e W4 ⟨⟨b, rfl, hfine⟩, hB4⟩
  have HB4 := hid hB4
  have z0 := (hB4.cell (p := ⟨w.heap.size, 0, none⟩) HX.out).trans x0
  have z1 := (hB4.cell (p := ⟨w.heap.size, 1, none⟩) HX.out).trans x1
  have HFine := hid hfine
  clear hfine hB4
  cases b with
  | true =>
    go_wp2_with (go_at_call 10; refine (C10.out _).mono ?_; rintro e W6 ⟨rfl, h6⟩; have OUT := hid (HDone.out W4 HB4.out W6 h6); clear h6)
    go_ret
    exact OUT.out
  | false =>
    obtain ⟨f1, f2, f3⟩ := HFine.out rfl
    rw [HN.out] at f1 f2
    rw [HNL.out] at f3
    have HF3 := hid f3
    clear HFine f3 f2
    have C23 := hid (small23 vars a n c al nl cl ss W4 HNL.out (by omega) (HS.out.below HB4.out).steps)
    go_wp2_with fail
    go_at_call 23
    refine C23.out.mono ?_
    clear C23
    rintro e W5 ⟨⟨b2, rfl, hsml⟩, hB5⟩
    have HB5 := hid (HB4.out.trans (hB5.mono HB4.out.size))
    have u0 := (HB5.out.cell (p := ⟨w.heap.size, 0, none⟩) HX.out).trans x0
    have u1 := (HB5.out.cell (p := ⟨w.heap.size, 1, none⟩) HX.out).trans x1
    have HSml := hid hsml
    clear hB5 hsml z0 z1 HB4
    cases b2 with
    | false =>
      go_wp2_with (go_at_call 10; refine (C10.out _).mono ?_; rintro e W6 ⟨rfl, h6⟩; have OUT := hid (HDone.out W5 HB5.out W6 h6); clear h6)
      go_ret
      exact OUT.out
    | true =>
      have hv8 := (HSml.out rfl).1
      have HL10 := hid (HSml.out rfl).2
      clear HSml
      by_cases hn60 : (60 : Int) < nl
      · go_wp2_with (go_at_call 10; refine (C10.out _).mono ?_; rintro e W6 ⟨rfl, h6⟩; have OUT := hid (HDone.out W5 HB5.out W6 h6); clear h6)
        go_ret
        exact OUT.out
      · by_cases hc60 : (60 : Int) < n
        · go_wp2_with (go_at_call 10; refine (C10.out _).mono ?_; rintro e W6 ⟨rfl, h6⟩; have OUT := hid (HDone.out W5 HB5.out W6 h6); clear h6)
          go_ret
          exact OUT.out
        · by_cases hr : Cnf.right vars cs = 0
          · have C13 := hid (new13 vars a n c cs W5 HN.out (HC.out.below HB5.out) hr)
            go_wp2_with fail
            go_at_call 13
            refine C13.out.mono ?_
            clear C13
            rintro e W6 ⟨cb, bm, t6, r6, rfl, hC6, hB6⟩
            obtain ⟨v0, _, _, _, _⟩ := right_zero hr
            obtain ⟨u, rfl⟩ : ∃ u : Nat, vars = u := ⟨vars.toNat, by omega⟩
            have HB6 := hid (HB5.out.trans (hB6.mono HB5.out.size))
            have HCK6 : Hid (CkS W5.heap.size cb bm t6 r6 cs.length W6 (Ckr.new cs)) := hC6
            have y0 := (HB6.out.cell (p := ⟨w.heap.size, 0, none⟩) HX.out).trans x0
            have y1 := (HB6.out.cell (p := ⟨w.heap.size, 1, none⟩) HX.out).trans x1
            have htk : Tru.taken u cs = 0 := by unfold Tru.taken; rw [hr, if_pos rfl, if_neg (by omega)]
            have C24 := hid (find24 u a n c cs W6 HN.out (HC.out.below HB6.out) htk (by omega) (by omega) (right_zero hr).2.2.2.1)
            have HR := hid hr
            have HB56 := hid hB6
            clear hC6 hB6 htk u0 u1 hr
            go_wp2_with fail
            go_at_call 24
            refine C24.out.mono ?_
            clear C24
            rintro e W7 ⟨hfo, hB7⟩
            have HB7 := hid (HB6.out.trans (hB7.mono HB6.out.size))
            have HCK7 : Hid (CkS W5.heap.size cb bm t6 r6 cs.length W7 (Ckr.new cs)) := Ck.below HCK6.out hB7
            obtain ⟨has, am, nm, cm, rfl, hhas⟩ : ∃ has am nm cm, e = .returned (.tuple #[.slice am nm cm, .bool has, .int .i64 0]) ∧ (has = true → ∃ k, Tru.sat cs u k = true) := by
              rcases hfo with ⟨k, am, cm, _, h1, _, rfl, _⟩ | ⟨_, rfl⟩
              · exact ⟨true, am, u, cm, rfl, fun _ => ⟨k, h1⟩⟩
              · exact ⟨false, none, 0, 0, rfl, fun h => by cases h⟩
            have HK7 := hid (Ckr.keeps_new HR.out (by omega) has hhas)
            have HB57' := hid (HB56.out.trans (hB7.mono HB56.out.size))
            clear hfo hB7 hhas y0 y1 HB6 HCK6 HB56
            have HB57 : Hid (Below W5.heap.size W5 W7) := HB57'.out
            clear HB57'
            go_wp2
            go_loopw [10] (fun i wr => ∃ (k : Nat) (S : Ckr.St) (t1 r1 : Option Nat) (k1 : Nat), i = .int .i64 k ∧ k ≤ nl ∧ Hid (CkS W5.heap.size cb bm t1 r1 k1 wr S) ∧ Hid (k1 ≤ n + k ∧ S.C.length ≤ n + k) ∧ Hid (Below W5.heap.size W5 wr) ∧ Hid (Ckr.Keeps has S)) (fun i _ => nl - (intOf i).toNat)
            case atStart => exact ⟨0, Ckr.new cs, t6, r6, cs.length, rfl, Nat.zero_le _, HCK7, hid ⟨by rw [HN.out]; omega, by unfold Ckr.new; simp only; rw [num_len, HN.out]; omega⟩, HB57, HK7⟩
            case round =>
              clear HCK7 HK7 HB57 HB7
              obtain ⟨k, S, t1, r1, k1, rfl, hk, HCK, HLn, HBr, HKp⟩ := hrel
              have C25 := hid (stands25 HCK.out (by have := HLn.out; omega) (by have := HLn.out; omega))
              have HG := hid HCK.out.good
              have HB1r := hid (HB5.out.trans (HBr.out.mono HB5.out.size))
              by_cases hlt : k < nl
              · have hlt' : (k : Int) < nl := by omega
                have hkl : k < ss.length := by rw [HNL.out]; exact hlt
                obtain ⟨b, off, a1, c1, a2, c2, rfl, hst, hcap⟩ := (HS.out.below HB5.out).at hkl
                have HST := hid hst
                have HCap := hid hcap
                have HMem := hid (List.getElem_mem hkl)
                have HItems := hid (show ss[k].lits.length + ss[k].hints.length ≤ 1500 by
                  have h1 := Lra.items_take ss k hkl
                  have h2 := Lra.items_le ss (k + 1)
                  have h3 := HF3.out
                  omega)
                generalize hsk : ss[k] = s at HST HCap HMem HItems hst hcap
                have HL := hid (HL10.out s HMem.out)
                clear hst hcap hsk hkl
                go_wp2_with fail
                go_at_call 25
                refine C25.out.mono ?_
                clear C25
                rintro e W8 ⟨av, cv, vs, rfl, hCm8, hB8⟩
                have hB9 := below_box W8 (.cells #[.int .i64 10, .slice av (S.C.map (·.2)).length cv] 24)
                have hx9 := heap_alloc_new W8 (.cells #[.int .i64 10, .slice av (S.C.map (·.2)).length cv] 24)
                generalize hW9 : W8.alloc (.cells #[.int .i64 10, .slice av (S.C.map (·.2)).length cv] 24) = W9 at hB9 hx9
                have hBr9 : Below wr.heap.size wr W9 := hB8.trans (hB9.mono hB8.size)
                have hB59 : Below W5.heap.size W5 W9 := HBr.out.trans (hBr9.mono HBr.out.size)
                have hC9 : CkS W5.heap.size cb bm t1 r1 k1 W9 S := Ck.below HCK.out hBr9
                have hst9 := HST.out.below hB59
                have e0 := hst9.k
                have e1 := hst9.i
                have e2 := hst9.l
                have e3 := hst9.h
                have C16 := hid (step16 W5.heap.size cb bm t1 r1 k1 W9 S s a1 c1 a2 c2 hC9 (by have := HLn.out; unfold maxLen; omega) (Ck.argS hC9 HST.out.v hB59 HCap.out (by have := HItems.out; omega)))
                unfold sval at C16
                have HX9 := hid hx9
                have HCm9 := hid (hCm8.below hB9)
                have HC9 := hid hC9
                have HB59 := hid hB59
                have HBW8 := hid hB8
                have HErr := hid (fun h => Ckr.step_err (S := S) (s := s) h)
                have HOn := hid (fun h hd => Ckr.keeps_on HKp.out HL.out h hd)
                have HDn := hid (fun h hd => Ckr.keeps_done HKp.out HL.out h hd)
                have HPl := hid (fun h hk hp hd => Ckr.keeps_plain (s := s) HKp.out h hk hp hd)
                have HSL := hid (step_len (S := S) (s := s))
                generalize Ckr.stepP S s = st at C16 HErr HOn HDn HPl HSL
                obtain ⟨q, S2⟩ := st
                simp only at HErr HOn HDn HPl HSL
                unfold StepOut at C16
                simp only at C16
                generalize hnc : (S.C.map (·.2)).length = nc at *
                generalize hlits : s.lits.length = nlit at *
                generalize hhints : s.hints.length = nh at *
                have HNH := hid hhints
                have HNC := hid hnc
                generalize hkd : s.kind = kd at *
                generalize s.id = sid at *
                clear hCm8 hB8 hB9 hx9 hBr9 hB59 hC9 hst9 hnc hlits hhints
                have hA9 : Away W5.heap.size cb bm t1 r1 W9 W8.heap.size := by
                  obtain ⟨p1, p2, p3, p4⟩ := Ck.lts HCK.out
                  have := HBW8.out.size
                  exact ⟨(Array.getElem?_eq_some_iff.1 HX9.out).1, by omega, by omega, fun e => by have := p3 _ e.symm; omega, fun e => by have := p4 _ e.symm; omega, fun _ cs fr e => by rw [HX9.out] at e; injection e with e1; injection e1 with _ e2; cases e2⟩
                have HA9 := hid hA9
                have HBel := hid (fun W10 (hF : Fp W5.heap.size cb bm t1 r1 W9 W10) => show Below W5.heap.size W5 W10 by
                  obtain ⟨p1, p2, p3, p4, p5⟩ := Ck.facts HC9.out
                  exact HB59.out.trans (hF.below p1 p2 (fun g h => (p3 g h).1) (fun g h => (p4 g h).1) p5))
                have HLn2 := hid (show S2.C.length ≤ n + (k + 1) by have := HLn.out; have := HSL.out; omega)
                clear hA9
                by_cases hq : q = 0
                · have hq' : (q != 0) = false := by simpa using hq
                  have HOn2 := hid (HOn.out hq)
                  have HDn2 := hid (HDn.out hq)
                  have HPl2 := hid (HPl.out hq)
                  clear HErr HOn HDn HPl hq
                  go_wp2_with fail
                  go_at_call 16
                  refine C16.out.mono ?_
                  clear C16
                  rintro e W10 ⟨rfl, t5, r5, k5, hk5, hC10, hF10, _, _⟩
                  have HB510 := hid (HBel.out W10 hF10)
                  have HB110 := hid (HB5.out.trans (HB510.out.mono HB5.out.size))
                  have HC10 := hid hC10
                  have hst10 := HST.out.below HB510.out
                  have f0 := hst10.k
                  have f3 := hst10.h
                  rw [hkd] at f0
                  rw [HNH.out] at f3
                  have C26 := hid (plain26 a2 nh c2 s.hints W10 HNH.out (by have := HItems.out; omega) hst10.v.h)
                  have C27 := hid (Ck.done hC10)
                  have hx10 : W10.heap[W8.heap.size]? = some (.cells #[.int .i64 10, .slice av nc cv] 24 (0, 0)) := (HA9.out.same hF10).trans HX9.out
                  have g0 : W10.cell? ⟨W8.heap.size, 0, none⟩ = some (.int .i64 10) := row_cell hx10 0
                  have g1 : W10.cell? ⟨W8.heap.size, 1, none⟩ = some (.slice av nc cv) := row_cell hx10 1
                  have hCm10 := HCm9.out.fp HCK.out (Nat.le_refl _) hF10
                  have C24 : Hid (Calls Try.prog 24 #[.agg #[.int .i64 10, .slice av nc cv]] W10 fun e w' => FindOut 10 (S.C.map (·.2)) e w' ∧ Below W10.heap.size W10 w') := by
                    obtain ⟨a', c', e', hcls⟩ := hCm10.cls (good_cls HG.out)
                    rw [HNC.out] at e'
                    injection e' with e1 _ e3
                    subst e1 e3
                    exact find24 10 av nc cv (S.C.map (·.2)) W10 HNC.out hcls (Ckr.taken_ten HG.out HKp.out.upto (by have := HLn.out; omega)) (by omega) (by rw [← HNC.out, List.length_map]; have := HLn.out; omega) (good_flat HG.out)
                  have HK5 := hid (show k5 ≤ n + (k + 1) by have := HLn.out; omega)
                  clear hC10 hF10 hk5 hst10 hx10 hCm10 HBel HA9 HX9 HCm9 HC9 HB59 HBW8 HSL HST HCap HItems hW9 e0 e1 e2 e3
                  have hfin : S2.dn = true → has = false := HDn2.out
                  generalize hdn : S2.dn = dn2 at C27 HOn2 HDn2 HPl2 hfin
                  generalize hpl : s.hints.all Lra.above = bp at C26 HPl2
                  by_cases hE : kd = 1 ∧ bp = true ∧ 0 < nh ∧ dn2 = true
                  · obtain ⟨rfl, rfl, hnh, rfl⟩ := hE
                    have hnh' : (0 : Int) < nh := by omega
                    obtain rfl := hfin rfl
                    have HNo := hid (HPl2.out rfl rfl rfl)
                    go_wp2_with (first
                      | (go_at_call 26; refine C26.out.mono ?_; rintro e W' ⟨rfl, hW⟩; rw [hW]; clear hW)
                      | (go_at_call 27; refine C27.out.mono ?_; clear C27; rintro e W' ⟨rfl, hW⟩; rw [hW]; clear hW)
                      | (go_at_call 24; refine C24.out.mono ?_; clear C24; rintro e W11 ⟨hfo, hB11⟩
                         obtain rfl : e = .returned (.tuple #[.slice none 0 0, .bool false, .int .i64 0]) := by
                           rcases hfo with ⟨q, _, _, _, h1, _⟩ | ⟨_, h⟩
                           · rw [HNo.out q] at h1; cases h1
                           · exact h
                         have HB111 := hid (HB110.out.trans (hB11.mono HB110.out.size))
                         have D27 := hid (Ck.done (Ck.below HC10.out hB11))
                         rw [hdn] at D27
                         clear hfo hB11)
                      | (go_at_call 27; refine D27.out.mono ?_; clear D27; rintro e W' ⟨rfl, hW⟩; rw [hW]; clear hW)
                      | (go_at_call 10; refine (C10.out _).mono ?_; rintro e W12 ⟨rfl, h12⟩; have OUT := hid (HDone.out _ HB111.out W12 h12); clear h12))
                    go_ret
                    exact OUT.out
                  · have key : (kd == 1) = false ∨ ((kd == 1) = true ∧ bp = false) ∨ ((kd == 1) = true ∧ bp = true ∧ ¬ (0 : Int) < nh) ∨ ((kd == 1) = true ∧ bp = true ∧ (0 : Int) < nh ∧ dn2 = false) := by
                      by_cases h1 : kd = 1
                      · right
                        have h1' : (kd == 1) = true := by simpa using h1
                        cases bp with
                        | false => exact .inl ⟨h1', rfl⟩
                        | true =>
                          right
                          by_cases h2 : 0 < nh
                          · right
                            refine ⟨h1', rfl, by omega, ?_⟩
                            cases dn2 with
                            | false => rfl
                            | true => exact absurd ⟨h1, rfl, h2, rfl⟩ hE
                          · exact .inl ⟨h1', rfl, by omega⟩
                      · exact .inl (by simpa using h1)
                    clear hE C24 HPl2
                    cases dn2 with
                    | true =>
                      obtain rfl := hfin rfl
                      rcases key with h1 | ⟨h1, rfl⟩ | ⟨h1, rfl, h2⟩ | ⟨_, _, _, h⟩
                      · go_wp2_with (first
                          | (go_at_call 26; refine C26.out.mono ?_; rintro e W' ⟨rfl, hW⟩; rw [hW]; clear hW)
                          | (go_at_call 27; refine C27.out.mono ?_; rintro e W' ⟨rfl, hW⟩; rw [hW]; clear hW)
                          | (go_at_call 10; refine (C10.out _).mono ?_; rintro e W12 ⟨rfl, h12⟩; have OUT := hid (HDone.out _ HB110.out W12 h12); clear h12))
                        go_ret
                        exact OUT.out
                      · go_wp2_with (first
                          | (go_at_call 26; refine C26.out.mono ?_; rintro e W' ⟨rfl, hW⟩; rw [hW]; clear hW)
                          | (go_at_call 27; refine C27.out.mono ?_; rintro e W' ⟨rfl, hW⟩; rw [hW]; clear hW)
                          | (go_at_call 10; refine (C10.out _).mono ?_; rintro e W12 ⟨rfl, h12⟩; have OUT := hid (HDone.out _ HB110.out W12 h12); clear h12))
                        go_ret
                        exact OUT.out
                      · go_wp2_with (first
                          | (go_at_call 26; refine C26.out.mono ?_; rintro e W' ⟨rfl, hW⟩; rw [hW]; clear hW)
                          | (go_at_call 27; refine C27.out.mono ?_; rintro e W' ⟨rfl, hW⟩; rw [hW]; clear hW)
                          | (go_at_call 10; refine (C10.out _).mono ?_; rintro e W12 ⟨rfl, h12⟩; have OUT := hid (HDone.out _ HB110.out W12 h12); clear h12))
                        go_ret
                        exact OUT.out
                      · cases h
                    | false =>
                      have HKp2 := hid (HOn2.out rfl)
                      rcases key with h1 | ⟨h1, rfl⟩ | ⟨h1, rfl, h2⟩ | ⟨h1, rfl, h2, _⟩
                      all_goals
                        go_wp2_with (first
                          | (go_at_call 26; refine C26.out.mono ?_; rintro e W' ⟨rfl, hW⟩; rw [hW]; clear hW)
                          | (go_at_call 27; refine C27.out.mono ?_; rintro e W' ⟨rfl, hW⟩; rw [hW]; clear hW))
                        go_roundw
                        case rel => exact ⟨k + 1, S2, t5, r5, k5, by go_num, by omega, HC10, hid ⟨HK5.out, HLn2.out⟩, HB510, HKp2⟩
                        case measure => simp [intOf]; omega
                · have hq' : (q != 0) = true := by simpa using hq
                  obtain rfl := HErr.out hq
                  clear HErr HOn HDn HPl hq
                  go_wp2_with (go_at_call 16; refine C16.out.mono ?_; clear C16; rintro e W10 ⟨rfl, t5, r5, k5, hk5, hC10, hF10, _, _⟩
                               have HB510 := hid (HBel.out W10 hF10)
                               have HC10 := hid hC10
                               have HK5 := hid (show k5 ≤ n + (k + 1) by have := HLn.out; omega)
                               clear hC10 hF10 hk5)
                  go_roundw
                  case rel => exact ⟨k + 1, _, t5, r5, k5, by go_num, by omega, HC10, hid ⟨HK5.out, HLn2.out⟩, HB510, HKp⟩
                  case measure => simp [intOf]; omega
              · have hge : ¬ (k : Int) < nl := by omega
                have C24 := hid (fun W8 av cv vs (hCm : Cm wr.heap.size W8 (.slice av (S.C.map (·.2)).length cv) (S.C.map (·.2)) vs) => show Calls Try.prog 24 #[.agg #[.int .i64 10, .slice av (S.C.map (·.2)).length cv]] W8 fun e w' => FindOut 10 (S.C.map (·.2)) e w' ∧ Below W8.heap.size W8 w' by
                  obtain ⟨a', c', e', hcls⟩ := hCm.cls (good_cls HG.out)
                  injection e' with e1 _ e3
                  subst e1 e3
                  exact find24 10 av _ cv (S.C.map (·.2)) W8 rfl hcls (Ckr.taken_ten HG.out HKp.out.upto (by have := HLn.out; omega)) (by omega) (by rw [List.length_map]; have := HLn.out; omega) (good_flat HG.out))
                have HSt := hid (fun (h : has = true) => show ∃ j, j < 2 ^ 10 ∧ Tru.sat (S.C.map (·.2)) 10 j = true by
                  obtain ⟨τ, h1, h2⟩ := HKp.out.model h
                  exact Ckr.sat_of h1 h2 10 HKp.out.upto)
                unfold StandsOut at C25
                generalize (S.C.map (·.2)).length = nc at C24 C25
                generalize S.C.map (·.2) = xs at C24 C25 HSt
                have key : ∀ e W, FindOut 10 xs e W → ∃ st am nm cm, e = .returned (.tuple #[.slice am nm cm, .bool st, .int .i64 0]) ∧ (has = true → st = true) := by
                  intro e W hfo
                  rcases hfo with ⟨q, am, cm, _, _, _, rfl, _⟩ | ⟨hno, rfl⟩
                  · exact ⟨true, am, 10, cm, rfl, fun _ => rfl⟩
                  · refine ⟨false, none, 0, 0, rfl, fun h => ?_⟩
                    obtain ⟨q, h1, h2⟩ := HSt.out h
                    rw [hno q h1] at h2; cases h2
                have HKey := hid key
                clear key HSt
                go_wp2_with (first
                  | (go_at_call 25; refine C25.out.mono ?_; clear C25; rintro e W8 ⟨av, cv, vs, rfl, hCm8, hB8⟩
                     have D24 := hid (C24.out W8 av cv vs hCm8)
                     have HB18 := hid (HB1r.out.trans (hB8.mono HB1r.out.size))
                     clear hCm8 hB8))
                go_at_call 24
                refine D24.out.mono ?_
                clear D24
                rintro e W9 ⟨hfo, hB9⟩
                obtain ⟨st, am, nm, cm, rfl, hst⟩ := HKey.out e W9 hfo
                have HB19 := hid (HB18.out.trans (hB9.mono HB18.out.size))
                clear hfo hB9
                cases has with
                | true =>
                  obtain rfl := hst rfl
                  go_wp2_with (go_at_call 10; refine (C10.out _).mono ?_; rintro e W12 ⟨rfl, h12⟩; have OUT := hid (HDone.out _ HB19.out W12 h12); clear h12)
                  go_ret
                  exact OUT.out
                | false =>
                  go_wp2_with (go_at_call 10; refine (C10.out _).mono ?_; rintro e W12 ⟨rfl, h12⟩; have OUT := hid (HDone.out _ HB19.out W12 h12); clear h12)
                  go_ret
                  exact OUT.out
          · have C13 := hid (new13_err vars a n c cs W5 HN.out (HC.out.below HB5.out) hr)
            have hr1 : (Cnf.right vars cs == 0) = false := by simpa using hr
            have hr2 : (Cnf.right vars cs != 0) = true := by simpa using hr
            generalize Cnf.right vars cs = q at C13 hr1 hr2
            clear hr
            go_wp2_with (first
              | (go_at_call 13; refine C13.out.mono ?_; clear C13; rintro e W6 ⟨rfl, hB6⟩; have HB6 := hid (HB5.out.trans (hB6.mono HB5.out.size)); clear hB6)
              | (go_at_call 10; refine (C10.out _).mono ?_; rintro e W7 ⟨rfl, h7⟩; have OUT := hid (HDone.out _ HB6.out W7 h7); clear h7))
            go_ret
            exact OUT.out
end Go.Proofs.Ytjjanmgeogjngaa

/- For every formula and every row of steps the law CheckSound returns true, and the arguments stay as they were. No condition. -/
namespace Go.Proofs.Ytjjanmgeogjngaa.checkSound
open Go.ChangeShapes Go.WideShapes Go.ChangeAt Go.ChangeMaps Go.RowKit Go.Joins
set_option linter.unusedVariables false

set_option maxRecDepth 100000 in
theorem lifted (os : Os) (started : os.Started) (H : Type) (enc : TypeId × Value → H) :
    ReturnsInHanded {} Try.checked os 5 .any (Rows.checkSoundSpec.pre6 enc Try.prog Try.f5 Rows.checkSoundRow.domain false) (Rows.checkSoundSpec.post enc Try.prog Try.f5 false true false false) := by
  refine returnsInHanded_of_change_sized (C := Try.checked) own started (by kernel_rfl) Try.func5
    (ChangeSpec.witness6 (enc := enc) (C := Try.checked) false ⟨#[], #[.agg #[.int .i64 0, .slice none 0 0], .slice none 0 0], []⟩ 8 (by kernel_rfl) (by kernel_rfl) (by kernel_rfl) (by kernel_rfl)) ?_
  intro W base args ds gs before hval0 hW hcnd0 hsz0 hholds
  have hval : ∀ (j : Nat) t v, Try.f5.params[j]? = some t → args[j]? = some v → Value.okWide Try.prog W .any base t v := hval0
  have hsz : (DataW.weightsEach Try.prog (Try.f5.params.toList ++ Rows.checkSoundSpec.plain.varTypes Try.prog) (ds ++ gs)).all (· ≤ reachBytes) = true := hsz0
  have hW' := hW
  obtain ⟨p, q, hA0, hV, rfl, hfz, hnd⟩ := hW
  have hA : DataW.TrodAll enc Try.prog W 0 (fun _ => true) true Try.f5.params.toList args.toList ds p := hA0
  rw [Try.params5] at hA hval hsz
  obtain ⟨v0, vs0, d0, ds0, p0, q0, hargs, rfl, rfl, h0, r0⟩ := trodAll_cons hA
  obtain ⟨v1, vs1, d1, ds1, p1, q1, rfl, rfl, rfl, h1, r1⟩ := trodAll_cons r0
  obtain ⟨rfl, rfl, rfl⟩ := trodAll_nil r1
  obtain rfl : args = #[v0, v1] := by cases args; simp_all
  obtain ⟨rfl, rfl⟩ := trodVars_none hV
  have k0 := h0
  have lt0 : ∀ x ∈ p0, x.block < W.heap.size := by obtain ⟨m, hm⟩ := k0; exact DataW.trod_lt m _ _ _ hm
  obtain ⟨c00, c01, y00, y01, m0, rfl, rfl, rfl, hy00, hy01⟩ := open_agg2 Try.underlying24 (by kernel_rfl) cellsF (hval 0 24 v0 rfl rfl) h0
  obtain ⟨vars0, e00, e01, wv0⟩ := DataW.trod_int Try.underlying3 hy00
  simp only [List.cons.injEq, and_true] at e00
  subst e00
  have hws0 : ∀ x ∈ y01.1.weights Try.prog 22, x ≤ reachBytes := by
    intro x hx
    have hm2 : x ∈ (DataW.agg [y00.1, y01.1] : DataW H).weights Try.prog 24 := by
      simp only [DataW.weights, Try.underlying24]
      exact DataW.weights_mem_each (j := 1) rfl rfl x hx
    have := List.all_eq_true.1 hsz _ (DataW.weights_mem_each (j := 0) (t := 24) (d := .agg [y00.1, y01.1]) rfl rfl x hm2)
    simpa using this
  obtain ⟨a0, len0, cap0, z0, rfl, hl0, w0, hn0⟩ := cls_open hy01 hws0
  have k1 := h1
  have lt1 : ∀ x ∈ p1, x.block < W.heap.size := by obtain ⟨m, hm⟩ := k1; exact DataW.trod_lt m _ _ _ hm
  obtain ⟨a1, len1, cap1, rfl⟩ := okWide_slice Try.underlying25 (hval 1 25 v1 rfl rfl)
  obtain ⟨fu1, hf1⟩ := h1
  have hws1 : ∀ x ∈ d1.weights Try.prog 25, x ≤ reachBytes := by
    intro x hx
    have := List.all_eq_true.1 hsz _ (DataW.weights_mem_each (j := 1) (t := 25) (d := d1) rfl rfl x hx)
    simpa using this
  obtain ⟨_, _, _, z1, e1, hl1, w1, hn1⟩ := steps_open (y := (d1, p1)) hf1 hws1
  injection e1 with e1a e1b e1c
  subst e1a e1b e1c
  clear hA0 hval0
  refine ((law5 vars0 a0 len0 cap0 z0 a1 len1 cap1 z1 W hl0 hn0 w0 hl1 hn1 w1 : Calls Try.prog 5 _ W fun e w' => e = .returned (.bool true) ∧ Below W.heap.size W w')).mono fun e W' ⟨he, bel⟩ => ?_
  subst he
  exact ⟨_, rfl, _, _, _, [], _, [], hW', trodAll_mk1 (shut_bool Try.underlying4 _), (trodAll_cons_mk (Below.trod laidOut (by kernel_rfl) (of_decide_eq_true (by kernel_rfl)) k0 bel lt0) (trodAll_cons_mk (Below.trod laidOut (by kernel_rfl) (of_decide_eq_true (by kernel_rfl)) k1 bel lt1) trodAll_mk0)), rfl, bel.frame _, fun h => by cases h⟩

theorem over : Rows.checkSoundRow.holds Try.pinned (OpenSpec.ofChange Rows.checkSoundSpec) :=
  OpenClaim.holds_of_wide 5 Try.f5 rfl rfl rfl rfl rfl rfl rfl ⟨rfl, rfl, rfl, rfl, rfl⟩ rfl rfl rfl rfl rfl (by kernel_rfl) Try.func5 (by kernel_rfl)
    (of_decide_eq_true (by kernel_rfl)) (by unfold Func.isWrapper; first | (rw [if_pos (by decide +kernel)]; kernel_rfl) | (rw [if_neg (by decide +kernel)]; exact ⟨rfl, rfl⟩))
    (fun os started H enc _ => lifted os started H enc)

end Go.Proofs.Ytjjanmgeogjngaa.checkSound
namespace Go.Proofs.Ytjjanmgeogjngaa
open Go

/-- The given statement. -/
theorem checkSound_holds : Rows.CheckSoundSaid := checkSound.over
end Go.Proofs.Ytjjanmgeogjngaa

