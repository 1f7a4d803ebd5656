/- A base, plainly: its calls. -/
import Derived.Test.YthpebfojkpnojaaGreatJaa
/- A base, plainly: its calls. -/
namespace Bas
def vr (l : Int) : Int := if l < 0 then -l else l
/-- A rule that was done. -/
structure Rl where
  kind : Int
  id : Int
  by_ : Int
  red : Bool
  lits : List Int
  hints : List Int
/-- What a base holds. -/
structure S where
  vars : Int
  form : Int
  last : Int
  live : List E
  rules : List Rl
  stack : List (List Int × List Int)
/-- A step of the proof: kind, id, literals, hints. -/
structure Stp where
  kind : Int
  id : Int
  lits : List Int
  hints : List Int
def stepsOf : Int → List Rl → List Stp
  | _, [] => []
  | last, r :: rs => if r.kind = 1 then ⟨1, r.id, r.lits, r.hints⟩ :: stepsOf r.id rs else if r.kind = 2 then stepsOf last rs else ⟨2, last, [], [r.id]⟩ :: stepsOf last rs
/-- The last id that rules leave. -/
def lastOf : Int → List Rl → Int
  | last, [] => last
  | last, r :: rs => lastOf (if r.kind = 1 then r.id else last) rs
theorem stepsOf_snoc : ∀ (rs : List Rl) (last : Int) (r : Rl), stepsOf last (rs ++ [r]) = stepsOf last rs ++ stepsOf (lastOf last rs) [r]
  | [], last, r => by simp [stepsOf, lastOf]
  | q :: rs, last, r => by
    rw [List.cons_append, stepsOf, stepsOf, lastOf]
    by_cases h1 : q.kind = 1
    · simp only [h1, if_true]
      rw [stepsOf_snoc rs, List.cons_append]
    · by_cases h2 : q.kind = 2
      · simp only [h2, if_true, show ¬ ((2 : Int) = 1) by decide, if_false]
        exact stepsOf_snoc rs last r
      · simp only [h1, h2, if_false]
        rw [stepsOf_snoc rs, List.cons_append]
theorem lastOf_snoc : ∀ (rs : List Rl) (last : Int) (r : Rl), lastOf last (rs ++ [r]) = if r.kind = 1 then r.id else lastOf last rs
  | [], last, r => by simp [lastOf]
  | q :: rs, last, r => by rw [List.cons_append, lastOf, lastOf_snoc rs, lastOf]
def nsteps (s : S) : Nat := (stepsOf s.form s.rules).length
def full (s : S) : Bool := decide (4194304 ≤ nsteps s)
def has (vars : Int) (c : List Int) : Bool := c.all (fun l => decide (1 ≤ vr l) && decide (vr l ≤ vars))
def addE (s : S) (c hs : List Int) : Int := if full s then 3 else if has s.vars c then followsD (lookL s.live) c hs else 4
def addS (s : S) (c hs : List Int) (red : Bool) : S := if addE s c hs = 0 then { s with last := s.last + 1, live := s.live ++ [⟨s.last + 1, c, red⟩], rules := s.rules ++ [⟨1, s.last + 1, 0, red, c, hs⟩] } else s
def addR (s : S) (c hs : List Int) : Int := if addE s c hs = 0 then s.last + 1 else 0
def keepE (s : S) (id : Int) : Int := if (look s.live id).isSome then 0 else 5
def keepS (s : S) (id : Int) : S := if keepE s id = 0 then { s with live := keepL s.live id, rules := s.rules ++ [⟨2, id, 0, false, [], []⟩] } else s
def deleteE (s : S) (id : Int) : Int := match look s.live id with
  | none => 5
  | some e => if e.red then (if full s then 3 else 0) else 7
def deleteS (s : S) (id : Int) : S := if deleteE s id = 0 then { s with live := delL s.live id, rules := s.rules ++ [⟨3, id, 0, false, [], []⟩] } else s
def subs (d c : List Int) : Bool := d.all (fun x => c.contains x)
def dropE (s : S) (id by_ : Int) : Int := match look s.live id with
  | none => 5
  | some e => if by_ = 0 then (if both e.lits then (if full s then 3 else 0) else 2) else match look s.live by_ with
    | none => 5
    | some d => if by_ = id then 2 else if subs d.lits e.lits then (if full s then 3 else 0) else 2
def redOf (s : S) (id : Int) : Bool := ((look s.live id).map (·.red)).getD false
def dropS (s : S) (id by_ : Int) : S := if dropE s id by_ = 0 then { s with live := delL (if by_ = 0 ∨ redOf s id = true then s.live else keepL s.live by_) id, rules := s.rules ++ [⟨4, id, by_, false, [], []⟩] } else s
def litsOf (s : S) (id : Int) : List Int := ((look s.live id).map (·.lits)).getD []
def weakenE (s : S) (id : Int) (w : List Int) : Int := match look s.live id with
  | none => 5
  | some e => if e.red then 7 else if has s.vars w then (match w with
    | [] => 2
    | l :: _ => if e.lits.contains l && !both w then (if full s then 3 else 0) else 2) else 4
def weakenS (s : S) (id : Int) (w : List Int) : S := if weakenE s id w = 0 then { s with live := delL s.live id, rules := s.rules ++ [⟨5, id, 0, false, w, []⟩], stack := s.stack ++ [(w, litsOf s id)] } else s
def new (vars : Int) (f : List (List Int)) : S := ⟨vars, f.length, f.length, start f 1, [], []⟩
/-- The ids of the clauses in which a literal is. -/
def occ (L : List E) (l : Int) : List Int := (L.filter (fun e => e.lits.contains l)).map (·.id)
/-- What holds of a base between calls. -/
structure Good (s : S) : Prop where
  sorted : s.live.Pairwise (fun d e => d.id < e.id)
  ids : ∀ e ∈ s.live, 1 ≤ e.id ∧ e.id ≤ s.last
  lits : ∀ e ∈ s.live, ∀ x ∈ e.lits, x ≠ 0 ∧ vr x ≤ s.vars
  last : lastOf s.form s.rules = s.last
  vars : 0 ≤ s.vars ∧ s.vars ≤ 1048576
  form : 0 ≤ s.form ∧ s.form ≤ s.last
theorem keepL_ids (L : List E) (id : Int) : (keepL L id).map (·.id) = L.map (·.id) := by
  unfold keepL
  rw [List.map_map]
  apply List.map_congr_left
  intro e _
  simp only [Function.comp]
  split <;> rfl
theorem pw_ids {L : List E} : L.Pairwise (fun d e => d.id < e.id) ↔ (L.map (·.id)).Pairwise (· < ·) := by rw [List.pairwise_map]
theorem Good.keepL {s : S} (h : Good s) (id : Int) (r : Rl) (hr : r.kind ≠ 1) : Good { s with live := keepL s.live id, rules := s.rules ++ [r] } := by
  refine ⟨?_, fun e he => ?_, fun e he => ?_, ?_, h.vars, h.form⟩
  · rw [pw_ids, keepL_ids, ← pw_ids]; exact h.sorted
  · obtain ⟨d, hd, _, e2, _⟩ := mem_keep he
    rw [e2]; exact h.ids d hd
  · obtain ⟨d, hd, e1, _⟩ := mem_keep he
    rw [e1]; exact h.lits d hd
  · show lastOf s.form (s.rules ++ [r]) = s.last
    rw [lastOf_snoc, if_neg hr]; exact h.last
theorem Good.del {s : S} (h : Good s) (id : Int) (r : Rl) (hr : r.kind ≠ 1) (st : List (List Int × List Int)) : Good { s with live := delL s.live id, rules := s.rules ++ [r], stack := st } := by
  refine ⟨h.sorted.filter _, fun e he => h.ids e (mem_del.1 he).1, fun e he => h.lits e (mem_del.1 he).1, ?_, h.vars, h.form⟩
  show lastOf s.form (s.rules ++ [r]) = s.last
  rw [lastOf_snoc, if_neg hr]; exact h.last
theorem has_spec {vars : Int} {c : List Int} (h : has vars c = true) : ∀ x ∈ c, x ≠ 0 ∧ vr x ≤ vars := fun x hx => by
  have := List.all_eq_true.1 h x hx
  simp only [Bool.and_eq_true, decide_eq_true_eq] at this
  refine ⟨fun e => ?_, this.2⟩
  rw [e] at this
  simp [vr] at this
theorem Good.add {s : S} (h : Good s) (c hs : List Int) (red : Bool) : Good (addS s c hs red) := by
  unfold addS
  split
  · rename_i h0
    have hh : has s.vars c = true := by
      unfold addE at h0
      split at h0
      · simp at h0
      · split at h0
        · assumption
        · simp at h0
    refine ⟨?_, fun e he => ?_, fun e he => ?_, ?_, h.vars, ⟨h.form.1, by show s.form ≤ s.last + 1; have := h.form.2; omega⟩⟩
    · refine List.pairwise_append.2 ⟨h.sorted, List.pairwise_singleton _ _, fun d hd e he => ?_⟩
      obtain rfl := List.mem_singleton.1 he
      have := (h.ids d hd).2
      show d.id < s.last + 1
      omega
    · show 1 ≤ e.id ∧ e.id ≤ s.last + 1
      rcases List.mem_append.1 he with he | he
      · have := h.ids e he; omega
      · obtain rfl := List.mem_singleton.1 he
        have := h.form
        show 1 ≤ s.last + 1 ∧ s.last + 1 ≤ s.last + 1
        omega
    · rcases List.mem_append.1 he with he | he
      · exact h.lits e he
      · obtain rfl := List.mem_singleton.1 he
        exact has_spec hh
    · show lastOf s.form (s.rules ++ [_]) = s.last + 1
      rw [lastOf_snoc, if_pos rfl]
  · exact h
theorem Good.keep {s : S} (h : Good s) (id : Int) : Good (keepS s id) := by
  unfold keepS
  split
  · exact h.keepL id _ (by simp)
  · exact h
theorem Good.delete {s : S} (h : Good s) (id : Int) : Good (deleteS s id) := by
  unfold deleteS
  split
  · exact h.del id _ (by simp) s.stack
  · exact h
theorem Good.weaken {s : S} (h : Good s) (id : Int) (w : List Int) : Good (weakenS s id w) := by
  unfold weakenS
  split
  · exact h.del id _ (by simp) _
  · exact h
theorem Good.drop {s : S} (h : Good s) (id by_ : Int) : Good (dropS s id by_) := by
  unfold dropS
  split
  · split
    · exact h.del id _ (by simp) s.stack
    · have h1 := h.keepL by_ ⟨4, id, by_, false, [], []⟩ (by simp)
      exact ⟨h1.sorted.filter _, fun e he => h1.ids e (mem_del.1 he).1, fun e he => h1.lits e (mem_del.1 he).1, h1.last, h1.vars, h1.form⟩
  · exact h
theorem look_of_mem {L : List E} (hs : L.Pairwise (fun d e => d.id < e.id)) {e : E} (he : e ∈ L) : look L e.id = some e := by
  induction L with
  | nil => cases he
  | cons d L ih =>
    obtain ⟨h1, h2⟩ := List.pairwise_cons.1 hs
    unfold look
    rw [List.find?_cons]
    rcases List.mem_cons.1 he with rfl | he
    · simp
    · have := h1 e he
      rw [show (d.id == e.id) = false by simp; omega]
      exact ih h2 he
/-- The models stay, whatever is added, kept, deleted, dropped. -/
theorem addS_snd {f : List (List Int)} {s : S} (h : Snd f s.live) (c hs : List Int) (red : Bool) : Snd f (addS s c hs red).live := by
  unfold addS
  split
  · rename_i h0
    unfold addE at h0
    split at h0
    · simp at h0
    · split at h0
      · rename_i hh
        exact add_snd h (fun x hx => (has_spec hh x hx).1) h0
      · simp at h0
  · exact h
theorem keepS_snd {f : List (List Int)} {s : S} (h : Snd f s.live) (id : Int) : Snd f (keepS s id).live := by
  unfold keepS
  split
  · exact keep_snd h
  · exact h
theorem deleteS_snd {f : List (List Int)} {s : S} (hG : Good s) (h : Snd f s.live) (id : Int) : Snd f (deleteS s id).live := by
  unfold deleteS
  split
  · rename_i h0
    refine delete_snd h (fun e he hi => ?_)
    have hl := look_of_mem hG.sorted he
    rw [hi] at hl
    unfold deleteE at h0
    rw [hl] at h0
    simp only at h0
    split at h0
    · assumption
    · simp at h0
  · exact h
theorem dropS_snd {f : List (List Int)} {s : S} (hG : Good s) (h : Snd f s.live) (id by_ : Int) : Snd f (dropS s id by_).live := by
  unfold dropS
  split
  · rename_i h0
    have hl : ∀ e ∈ s.live, e.id = id → look s.live id = some e := fun e he hi => by rw [← hi]; exact look_of_mem hG.sorted he
    show Snd f (delL (if by_ = 0 ∨ redOf s id = true then s.live else keepL s.live by_) id)
    by_cases hb : by_ = 0
    · rw [if_pos (.inl hb)]
      refine taut_snd h (fun e he hi => ⟨?_, fun x hx => (hG.lits e he x hx).1⟩)
      unfold dropE at h0
      rw [hl e he hi] at h0
      simp only [hb, if_true] at h0
      split at h0
      · assumption
      · simp at h0
    · by_cases hr : redOf s id = true
      · rw [if_pos (.inr hr)]
        refine delete_snd h (fun e he hi => ?_)
        unfold redOf at hr
        rw [hl e he hi] at hr
        simpa using hr
      · rw [if_neg (by simp [hb, hr])]
        have hne : by_ ≠ id := fun e1 => by
          unfold dropE at h0
          rw [e1] at h0 hb
          cases hq : look s.live id with
          | none => rw [hq] at h0; simp at h0
          | some e => rw [hq] at h0; simp [hb] at h0
        refine drop_snd h hne (fun e he hi _ => ?_)
        unfold dropE at h0
        rw [hl e he hi] at h0
        simp only [hb, if_false] at h0
        cases hq : look s.live by_ with
        | none => rw [hq] at h0; simp at h0
        | some d =>
          rw [hq] at h0
          simp only [hne, if_false] at h0
          split at h0
          · rename_i hsb
            obtain ⟨q1, q2⟩ := look_mem hq
            refine ⟨d, q1, q2, fun x hx => ?_⟩
            have := List.all_eq_true.1 hsb x hx
            simpa using this
          · simp at h0
  · exact h
end Bas

/- Rows of calls, plainly; what they leave of a base's bounds. -/
namespace Bas
/-- A call. -/
structure Cal where
  kind : Int
  id : Int
  by_ : Int
  lits : List Int
  hints : List Int
  red : Bool
instance : Inhabited Cal := ⟨⟨0, 0, 0, [], [], false⟩⟩
def nums (ss : List Cal) : Nat := (ss.map (fun s => s.lits.length + s.hints.length)).sum
theorem nums_take (ss : List Cal) (k : Nat) (h : k < ss.length) : nums (ss.take (k + 1)) = nums (ss.take k) + (ss[k].lits.length + ss[k].hints.length) := by
  unfold nums
  rw [List.take_succ_eq_append_getElem h, List.map_append, List.sum_append]
  simp
theorem nums_le (ss : List Cal) (k : Nat) : nums (ss.take k) ≤ nums ss := by
  have h : nums ss = nums (ss.take k) + nums (ss.drop k) := by
    unfold nums
    rw [← List.sum_append, ← List.map_append, List.take_append_drop]
  omega
/-- Bounds of a base behind so many calls of so many literals. -/
structure Ok (k t : Nat) (s : S) : Prop where
  good : Good s
  last : s.last ≤ 40 + k
  lits : ∀ e ∈ s.live, e.lits.length ≤ 200 + t
  live : s.live.length ≤ 40 + k
  rules : s.rules.length ≤ k
  stack : s.stack.length ≤ k
  wits : ∀ q ∈ s.stack, q.1.length ≤ 200 + t ∧ q.2.length ≤ 200 + t
theorem Ok.mono {k t k' t' : Nat} {s : S} (h : Ok k t s) (hk : k ≤ k') (ht : t ≤ t') : Ok k' t' s :=
  ⟨h.good, by have := h.last; omega, fun e he => by have := h.lits e he; omega, by have := h.live; omega, by have := h.rules; omega, by have := h.stack; omega, fun q hq => by have := h.wits q hq; omega⟩
theorem Ok.new {vars : Int} {cs : List (List Int)} (hn : cs.length ≤ 40) (hl : cs.length + cs.flatten.length ≤ 200) (hg : Good (new vars cs)) : Ok 0 0 (new vars cs) := by
  refine ⟨hg, by show (cs.length : Int) ≤ _; omega, fun e he => ?_, by show (start cs 1).length ≤ _; unfold start; rw [List.length_map, List.length_zipIdx]; omega, Nat.le_refl _, Nat.le_refl _, fun q hq => by cases hq⟩
  obtain ⟨p, hp, rfl⟩ := List.mem_map.1 he
  have hm : p.1 ∈ cs := (List.mem_zipIdx' hp).2 ▸ List.getElem_mem _
  have : p.1.length ≤ cs.flatten.length := List.Sublist.length_le (List.sublist_flatten_of_mem hm)
  show p.1.length ≤ _
  omega
theorem Ok.add {k t : Nat} {s : S} (h : Ok k t s) (c hs : List Int) (red : Bool) (n : Nat) (hc : c.length ≤ n) : Ok (k + 1) (t + n) (addS s c hs red) := by
  unfold addS
  split
  · rename_i h0
    have hg := h.good.add c hs red
    unfold addS at hg
    rw [if_pos h0] at hg
    refine ⟨hg, by show s.last + 1 ≤ _; have := h.last; omega, fun e he => ?_, by show (s.live ++ _).length ≤ _; have := h.live; simp; omega, by show (s.rules ++ _).length ≤ _; have := h.rules; simp; omega, by show s.stack.length ≤ _; have := h.stack; omega, fun q hq => by have := h.wits q hq; omega⟩
    rcases List.mem_append.1 he with he | he
    · have := h.lits e he; omega
    · obtain rfl := List.mem_singleton.1 he
      show c.length ≤ _
      omega
  · exact h.mono (by omega) (by omega)
theorem keepL_len (L : List E) (id : Int) : (keepL L id).length = L.length := by simp [keepL]
theorem delL_len (L : List E) (id : Int) : (delL L id).length ≤ L.length := List.length_filter_le _ _
theorem Ok.keep {k t : Nat} {s : S} (h : Ok k t s) (id : Int) : Ok (k + 1) t (keepS s id) := by
  have hg := h.good.keep id
  unfold keepS at hg ⊢
  split
  · rename_i h0
    rw [if_pos h0] at hg
    refine ⟨hg, by show s.last ≤ _; have := h.last; omega, fun e he => ?_, by show (keepL _ _).length ≤ _; have := h.live; rw [keepL_len]; omega, by show (s.rules ++ _).length ≤ _; have := h.rules; simp; omega, by show s.stack.length ≤ _; have := h.stack; omega, h.wits⟩
    obtain ⟨d, hd, e1, _⟩ := mem_keep he
    rw [e1]; exact h.lits d hd
  · exact h.mono (by omega) (by omega)
theorem Ok.delete {k t : Nat} {s : S} (h : Ok k t s) (id : Int) : Ok (k + 1) t (deleteS s id) := by
  have hg := h.good.delete id
  unfold deleteS at hg ⊢
  split
  · rename_i h0
    rw [if_pos h0] at hg
    exact ⟨hg, by show s.last ≤ _; have := h.last; omega, fun e he => h.lits e (mem_del.1 he).1, by show (delL _ _).length ≤ _; have := h.live; have := delL_len s.live id; omega, by show (s.rules ++ _).length ≤ _; have := h.rules; simp; omega, by show s.stack.length ≤ _; have := h.stack; omega, h.wits⟩
  · exact h.mono (by omega) (by omega)
theorem Ok.drop {k t : Nat} {s : S} (h : Ok k t s) (id by_ : Int) : Ok (k + 1) t (dropS s id by_) := by
  have hg := h.good.drop id by_
  unfold dropS at hg ⊢
  split
  · rename_i h0
    rw [if_pos h0] at hg
    refine ⟨hg, by show s.last ≤ _; have := h.last; omega, fun e he => ?_, ?_, by show (s.rules ++ _).length ≤ _; have := h.rules; simp; omega, by show s.stack.length ≤ _; have := h.stack; omega, h.wits⟩
    · have he := (mem_del.1 he).1
      split at he
      · exact h.lits e he
      · obtain ⟨d, hd, e1, _⟩ := mem_keep he
        rw [e1]; exact h.lits d hd
    · show (delL _ id).length ≤ _
      refine Nat.le_trans (delL_len _ _) ?_
      have := h.live
      split
      · omega
      · rw [keepL_len]; omega
  · exact h.mono (by omega) (by omega)
theorem litsOf_len {k t : Nat} {s : S} (h : Ok k t s) (id : Int) : (litsOf s id).length ≤ 200 + t := by
  unfold litsOf
  cases hl : look s.live id with
  | none => simp
  | some e => exact h.lits e (look_mem hl).1
theorem Ok.weaken {k t : Nat} {s : S} (h : Ok k t s) (id : Int) (w : List Int) (n : Nat) (hw : w.length ≤ n) : Ok (k + 1) (t + n) (weakenS s id w) := by
  have hg := h.good.weaken id w
  unfold weakenS at hg ⊢
  split
  · rename_i h0
    rw [if_pos h0] at hg
    refine ⟨hg, by show s.last ≤ _; have := h.last; omega, fun e he => by have := h.lits e (mem_del.1 he).1; omega, by show (delL _ _).length ≤ _; have := h.live; have := delL_len s.live id; omega, by show (s.rules ++ _).length ≤ _; have := h.rules; simp; omega, by show (s.stack ++ _).length ≤ _; have := h.stack; simp; omega, fun q hq => ?_⟩
    rcases List.mem_append.1 hq with hq | hq
    · have := h.wits q hq; omega
    · obtain rfl := List.mem_singleton.1 hq
      have := litsOf_len h id
      exact ⟨by show w.length ≤ _; omega, by show (litsOf s id).length ≤ _; omega⟩
  · exact h.mono (by omega) (by omega)
/-- What a Weaken that is taken leaves. -/
theorem weaken_ok {s : S} {id : Int} {w : List Int} (h : weakenE s id w = 0) : ∃ e l r, look s.live id = some e ∧ w = l :: r ∧ l ∈ e.lits ∧ (weakenS s id w).stack = s.stack ++ [(w, e.lits)] := by
  have h' := h
  unfold weakenE at h
  cases hl : look s.live id with
  | none => rw [hl] at h; simp at h
  | some e =>
    rw [hl] at h
    simp only at h
    split at h
    · simp at h
    · split at h
      · cases w with
        | nil => simp at h
        | cons l r =>
          refine ⟨e, l, r, rfl, rfl, ?_, ?_⟩
          · simp only at h
            by_cases hc : l ∈ e.lits
            · exact hc
            · simp [hc] at h
          · unfold weakenS
            rw [if_pos h']
            show s.stack ++ _ = _
            unfold litsOf
            rw [hl]
            rfl
      · simp at h
theorem weaken_no {s : S} {id : Int} {w : List Int} (h : weakenE s id w ≠ 0) : weakenS s id w = s := by
  unfold weakenS
  rw [if_neg h]
theorem look_of {s : S} (hg : Good s) {e : E} (he : e ∈ s.live) : look s.live e.id = some e := look_of_mem hg.sorted he
/-- The row of a literal holds a live clause's id just as the clause holds the literal. -/
theorem occ_iff {s : S} (hg : Good s) {e : E} (he : e ∈ s.live) (l : Int) : e.id ∈ occ s.live l ↔ l ∈ e.lits := by
  unfold occ
  rw [List.mem_map]
  constructor
  · rintro ⟨d, hd, hi⟩
    obtain ⟨h1, h2⟩ := List.mem_filter.1 hd
    have a := look_of hg he
    have b := look_of hg h1
    rw [hi, a] at b
    cases b
    simpa using h2
  · intro h
    exact ⟨e, List.mem_filter.2 ⟨he, by simpa using h⟩, rfl⟩
end Bas

