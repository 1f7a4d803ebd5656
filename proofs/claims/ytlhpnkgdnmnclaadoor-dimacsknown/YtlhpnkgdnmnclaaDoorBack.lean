/- What is printed is parsed as itself; what is parsed is right: plain lists. -/
import Derived.Test.YtlhpnkgdnmnclaaDoorPrints
import Derived.Test.YtlhpnkgdnmnclaaDoorBlank
import Derived.Test.YtlhpnkgdnmnclaaDoorAt
import Derived.Test.YtlhpnkgdnmnclaaDoorBound
namespace Dim
set_option linter.unusedVariables false
open Go (Lib.itoa Lib.decDigits)

def I (x : List UInt8) : List Int := x.map (fun b => (b.toNat : Int))
theorem I_app (x y : List UInt8) : I (x ++ y) = I x ++ I y := by simp [I]
theorem I_len (x : List UInt8) : (I x).length = x.length := by simp [I]

theorem dig_one (u : Nat) (h : u < 10) : I [UInt8.ofNat (48 + u)] = [48 + (u : Int)] := by
  simp [I]; omega
theorem dec_step (u : Nat) (h : ¬ u < 10) : I (Go.Lib.decDigits u) = I (Go.Lib.decDigits (u / 10)) ++ [48 + ((u % 10 : Nat) : Int)] := by
  rw [Go.Lib.decDigits, dif_neg h, I_app, dig_one (u % 10) (by omega)]
theorem dec_base (u : Nat) (h : u < 10) : I (Go.Lib.decDigits u) = [48 + (u : Int)] := by
  rw [Go.Lib.decDigits_one h, dig_one u h]
theorem dec_val (u : Nat) : valGo 0 (I (Go.Lib.decDigits u)) = u := by
  induction u using Nat.strongRecOn with
  | ind u ih =>
    by_cases h : u < 10
    · rw [dec_base u h]; simp [valGo]; omega
    · rw [dec_step u h, valGo_snoc, ih (u / 10) (by omega)]; omega
theorem dec_dig (u : Nat) : ∀ x ∈ I (Go.Lib.decDigits u), 48 ≤ x ∧ x ≤ 57 := by
  induction u using Nat.strongRecOn with
  | ind u ih =>
    intro x hx
    by_cases h : u < 10
    · rw [dec_base u h] at hx; simp at hx; omega
    · rw [dec_step u h] at hx
      rcases List.mem_append.1 hx with hx | hx
      · exact ih (u / 10) (by omega) x hx
      · simp at hx; omega
theorem dec_head (u : Nat) (h0 : 0 < u) : ∃ c r, I (Go.Lib.decDigits u) = c :: r ∧ c ≠ 48 := by
  induction u using Nat.strongRecOn with
  | ind u ih =>
    by_cases h : u < 10
    · exact ⟨_, _, dec_base u h, by omega⟩
    · obtain ⟨c, r, e, hc⟩ := ih (u / 10) (by omega) (by omega)
      exact ⟨c, _, by rw [dec_step u h, e]; rfl, hc⟩
theorem dec_ne (u : Nat) : I (Go.Lib.decDigits u) ≠ [] := by
  by_cases h : u < 10
  · rw [dec_base u h]; simp
  · rw [dec_step u h]; simp
theorem dec_num (u : Nat) : number (I (Go.Lib.decDigits u)) = some u := by
  have hn : isNum (I (Go.Lib.decDigits u)) = true := by
    refine isNum_of (List.length_pos_iff.2 (dec_ne u)) ?_ (fun x hx => by have := dec_dig u x hx; unfold digit; simp; omega)
    rintro ⟨h1, h2⟩
    by_cases h0 : u = 0
    · subst h0; rw [dec_base 0 (by omega)] at h1; simp at h1
    · obtain ⟨c, r, e, hc⟩ := dec_head u (by omega)
      rw [e] at h2
      exact hc (by simpa using h2)
  unfold number
  rw [if_pos hn, dec_val]
theorem itoa_nat (u : Nat) : Go.Lib.itoa (u : Int) = Go.Lib.decDigits u := by unfold Go.Lib.itoa; rw [if_neg (by omega)]; congr 1
theorem itoa_negN (u : Nat) (h : 0 < u) : I (Go.Lib.itoa (-(u : Int))) = 45 :: I (Go.Lib.decDigits u) := by
  unfold Go.Lib.itoa; rw [if_pos (by omega)]; simp [I]
theorem dec_first (u : Nat) : ∃ c r, I (Go.Lib.decDigits u) = c :: r ∧ 48 ≤ c ∧ c ≤ 57 := by
  cases e : I (Go.Lib.decDigits u) with
  | nil => exact absurd e (dec_ne u)
  | cons c r => exact ⟨c, r, rfl, dec_dig u c (by rw [e]; simp)⟩
theorem signed_nat (u : Nat) : signed (I (Go.Lib.itoa (u : Int))) = some (false, u) := by
  rw [itoa_nat]
  obtain ⟨c, r, e, h1, h2⟩ := dec_first u
  unfold signed
  rw [if_neg (by rw [e]; simp; omega), dec_num]
  rfl
theorem signed_neg (u : Nat) (h : 0 < u) : signed (I (Go.Lib.itoa (-(u : Int)))) = some (true, u) := by
  rw [itoa_negN u h]
  unfold signed
  rw [if_pos (by simp), List.tail_cons, dec_num]
  simp only
  rw [if_neg (by omega)]
/-- The signs of a number's word: no blank, no 10, no c. -/
theorem itoa_chars (i : Int) : ∀ x ∈ I (Go.Lib.itoa i), x = 45 ∨ (48 ≤ x ∧ x ≤ 57) := by
  intro x hx
  by_cases h : i < 0
  · obtain ⟨u, rfl⟩ : ∃ u : Nat, i = -(u : Int) := ⟨i.natAbs, by omega⟩
    rw [itoa_negN u (by omega)] at hx
    rcases List.mem_cons.1 hx with rfl | hx
    · exact .inl rfl
    · exact .inr (dec_dig u x hx)
  · obtain ⟨u, rfl⟩ : ∃ u : Nat, i = (u : Int) := ⟨i.toNat, by omega⟩
    rw [itoa_nat] at hx
    exact .inr (dec_dig u x hx)
theorem itoa_ne (i : Int) : I (Go.Lib.itoa i) ≠ [] := by
  by_cases h : i < 0
  · obtain ⟨u, rfl⟩ : ∃ u : Nat, i = -(u : Int) := ⟨i.natAbs, by omega⟩
    rw [itoa_negN u (by omega)]; simp
  · obtain ⟨u, rfl⟩ : ∃ u : Nat, i = (u : Int) := ⟨i.toNat, by omega⟩
    rw [itoa_nat]; exact dec_ne u

theorem wordsGo_word (w rest : List Int) (h : ∀ c ∈ w, blank c = false) : ∀ cur, wordsGo cur (w ++ rest) = wordsGo (cur ++ w) rest := by
  induction w with
  | nil => intro cur; simp
  | cons c w ih =>
    intro cur
    rw [List.cons_append, wordsGo_on c _ cur (h c (by simp)), ih (fun d hd => h d (by simp [hd]))]
    simp
theorem wordsGo_sep (w rest : List Int) (h : ∀ c ∈ w, blank c = false) (hw : w ≠ []) : wordsGo [] (w ++ 32 :: rest) = w :: wordsGo [] rest := by
  rw [wordsGo_word w _ h, List.nil_append, wordsGo_blank 32 _ _ rfl hw]
theorem wordsGo_last (w : List Int) (h : ∀ c ∈ w, blank c = false) (hw : w ≠ []) : wordsGo [] w = [w] := by
  have := wordsGo_word w [] h []
  rw [List.append_nil, List.nil_append] at this
  rw [this, wordsGo_end w hw]
theorem itoa_blank (i : Int) : ∀ c ∈ I (Go.Lib.itoa i), blank c = false := by
  intro c hc
  have := itoa_chars i c hc
  unfold blank
  simp; omega

/-! ### the head -/
def headL (v : Int) (n : Nat) : List Int := [112] ++ 32 :: ([99, 110, 102] ++ 32 :: (I (Go.Lib.itoa v) ++ 32 :: I (Go.Lib.itoa n)))
theorem headB_eq (v : Int) (n : Nat) : I (headB v n) = headL v n ++ [10] := by
  unfold headB headL
  simp [I]
theorem headL_words (v : Int) (n : Nat) : words (headL v n) = [[112], [99, 110, 102], I (Go.Lib.itoa v), I (Go.Lib.itoa n)] := by
  unfold words
  rw [if_neg (by simp [remark, headL]), headL, wordsGo_sep [112] _ (by decide) (by simp), wordsGo_sep [99, 110, 102] _ (by decide) (by simp), wordsGo_sep _ _ (itoa_blank v) (itoa_ne v), wordsGo_last _ (itoa_blank n) (itoa_ne n)]
theorem headL_noTen (v : Int) (n : Nat) : ∀ c ∈ headL v n, c ≠ 10 := by
  intro c hc
  unfold headL at hc
  simp only [List.mem_append, List.mem_cons, List.not_mem_nil, or_false] at hc
  rcases hc with rfl | rfl | (rfl | rfl | rfl) | rfl | hc | rfl | hc
  · decide
  · decide
  · decide
  · decide
  · decide
  · decide
  · have := itoa_chars v c hc; omega
  · decide
  · have := itoa_chars n c hc; omega

/-! ### the clauses -/
def litL (l : Int) : List Int := I (Go.Lib.itoa l)
def clauseL (c : List Int) : List Int := (c.map (fun l => litL l ++ [32])).flatten ++ [48]
theorem clauseB_eq (c : List Int) : I (clauseB c) = clauseL c ++ [10] := by
  unfold clauseB clauseL
  rw [I_app]
  have : I (c.map litB).flatten = (c.map (fun l => litL l ++ [32])).flatten := by
    induction c with
    | nil => rfl
    | cons l c ih => rw [List.map_cons, List.flatten_cons, I_app, ih, List.map_cons, List.flatten_cons]; congr 1; simp [litB, litL, I]
  rw [this]
  simp [I]
theorem clauseL_words (c : List Int) : wordsGo [] (clauseL c) = c.map litL ++ [[48]] := by
  unfold clauseL
  induction c with
  | nil => decide
  | cons l c ih =>
    rw [List.map_cons, List.flatten_cons, List.append_assoc, List.append_assoc, List.map_cons]
    rw [show litL l ++ ([32] ++ ((c.map (fun l => litL l ++ [32])).flatten ++ [48])) = litL l ++ 32 :: ((c.map (fun l => litL l ++ [32])).flatten ++ [48]) from rfl]
    rw [wordsGo_sep (litL l) _ (itoa_blank l) (itoa_ne l), ih]
    rfl
theorem clauseL_mem (c : List Int) : ∀ x ∈ clauseL c, x = 45 ∨ x = 32 ∨ (48 ≤ x ∧ x ≤ 57) := by
  intro x hx
  unfold clauseL at hx
  rcases List.mem_append.1 hx with hx | hx
  · obtain ⟨y, hy, hx⟩ := List.mem_flatten.1 hx
    obtain ⟨l, _, rfl⟩ := List.mem_map.1 hy
    rcases List.mem_append.1 hx with hx | hx
    · have := itoa_chars l x hx; omega
    · simp at hx; omega
  · simp at hx; omega
theorem clauseL_ne (c : List Int) : clauseL c ≠ [] := by unfold clauseL; simp
theorem clauseL_word (c : List Int) : words (clauseL c) = c.map litL ++ [[48]] := by
  unfold words
  rw [if_neg, clauseL_words]
  unfold remark
  cases e : clauseL c with
  | nil => simp
  | cons x r =>
    have := clauseL_mem c x (by rw [e]; simp)
    simp; omega
theorem lines_clauses (cs : List (List Int)) : lines (I ((cs.map clauseB).flatten)) = cs.map clauseL := by
  induction cs with
  | nil => exact lines_nil
  | cons c cs ih =>
    rw [List.map_cons, List.flatten_cons, I_app, clauseB_eq, List.append_assoc, List.map_cons]
    have hno : ∀ x ∈ clauseL c, x ≠ 10 := fun x hx => by have := clauseL_mem c x hx; omega
    rw [show clauseL c ++ ([10] ++ I (cs.map clauseB).flatten) = clauseL c ++ 10 :: I (cs.map clauseB).flatten from rfl]
    rw [lines_cons _ (by simp), cutL_line _ _ hno, cutR_line _ _ hno, ih]

/-- A literal that may be. -/
def good (v : Nat) (l : Int) : Prop := 1 ≤ Cnf.vr l ∧ Cnf.vr l ≤ v
theorem take_lit (v N : Nat) (st : St) (l : Int) (h : good v l) (h1 : st.cls.length < N) (h2 : st.lits < 16777216) : take v N st (litL l) = .ok ⟨st.cls, st.opn ++ [l], st.lits + 1⟩ := by
  obtain ⟨g1, g2⟩ := h
  unfold take litL
  by_cases hl : l < 0
  · obtain ⟨u, rfl⟩ : ∃ u : Nat, l = -(u : Int) := ⟨l.natAbs, by omega⟩
    have hv : Cnf.vr (-(u : Int)) = u := by unfold Cnf.vr; rw [if_pos hl]; omega
    rw [hv] at g1 g2
    rw [signed_neg u (by omega)]
    simp only
    rw [if_neg (by omega), if_neg (by omega), if_neg (by omega)]
    simp
  · obtain ⟨u, rfl⟩ : ∃ u : Nat, l = (u : Int) := ⟨l.toNat, by omega⟩
    have hv : Cnf.vr (u : Int) = u := by unfold Cnf.vr; rw [if_neg hl]
    rw [hv] at g1 g2
    rw [signed_nat u]
    simp only
    rw [if_neg (by omega), if_neg (by omega), if_neg (by omega)]
    simp
theorem take_nought (v N : Nat) (st : St) (h1 : st.cls.length < N) : take v N st [48] = .ok ⟨st.cls ++ [st.opn], [], st.lits⟩ := by
  have : signed [48] = some (false, 0) := by decide
  unfold take
  rw [this]
  simp only
  rw [if_neg (by omega), if_pos trivial]
theorem play_clause (v N n : Nat) (c : List Int) (r : List (Nat × List Int)) : ∀ st, (∀ l ∈ c, good v l) → st.cls.length < N → st.lits + c.length ≤ 16777216 →
    play v N st ((c.map litL ++ [[48]]).map (fun w => (n, w)) ++ r) = play v N ⟨st.cls ++ [st.opn ++ c], [], st.lits + c.length⟩ r := by
  induction c with
  | nil =>
    intro st _ h1 _
    rw [List.map_nil, List.nil_append, List.map_cons, List.map_nil, List.cons_append, List.nil_append, play, take_nought v N st h1]
    simp
  | cons l c ih =>
    intro st hg h1 h2
    simp only [List.length_cons] at h2
    rw [List.map_cons, List.cons_append, List.map_cons, List.cons_append, play, take_lit v N st l (hg l (by simp)) h1 (by omega)]
    simp only
    have := ih ⟨st.cls, st.opn ++ [l], st.lits + 1⟩ (fun x hx => hg x (by simp [hx])) h1 (by show st.lits + 1 + c.length ≤ 16777216; omega)
    rw [this]
    simp only [List.append_assoc, List.singleton_append, List.length_cons]
    congr 2
    omega
theorem play_clauses (v N : Nat) (cs : List (List Int)) : ∀ n st, st.opn = [] → (∀ c ∈ cs, ∀ l ∈ c, good v l) → st.cls.length + cs.length ≤ N → st.lits + cs.flatten.length ≤ 16777216 →
    play v N st (items n (cs.map clauseL)) = .ok ⟨st.cls ++ cs, [], st.lits + cs.flatten.length⟩ := by
  induction cs with
  | nil =>
    intro n st ho _ _ _
    obtain ⟨a, b, c⟩ := st
    simp only at ho
    subst ho
    simp [items, play]
  | cons c cs ih =>
    intro n st ho hg h1 h2
    rw [List.flatten_cons, List.length_append] at h2
    rw [List.length_cons] at h1
    rw [List.map_cons, items, clauseL_word, play_clause v N (n + 1) c _ st (hg c (by simp)) (by omega) (by omega)]
    have := ih (n + 1) ⟨st.cls ++ [st.opn ++ c], [], st.lits + c.length⟩ rfl (fun x hx => hg x (by simp [hx])) (by simp; omega) (by show st.lits + c.length + cs.flatten.length ≤ 16777216; omega)
    rw [this]
    simp only [ho, List.nil_append, List.append_assoc, List.singleton_append, List.flatten_cons, List.length_append]
    congr 2
    omega

/-- What is printed is parsed as itself. -/
theorem parse_print (v : Nat) (cs : List (List Int)) (hv : v ≤ 1048576) (hn : cs.length ≤ 1048576) (hl : cs.flatten.length ≤ 16777216) (hg : ∀ c ∈ cs, ∀ l ∈ c, good v l) : parse (I (printB v cs)) = ⟨0, 0, v, cs⟩ := by
  have hh : headT 0 (I (printB v cs)) = (headL v cs.length, I ((cs.map clauseB).flatten), 1) := by
    have e : I (printB v cs) = headL v cs.length ++ 10 :: I ((cs.map clauseB).flatten) := by
      unfold printB; rw [I_app, headB_eq, List.append_assoc]; rfl
    rw [e, headT_stop 0 _ (by simp) (by rw [cutL_line _ _ (headL_noTen _ _), headL_words]; simp), cutL_line _ _ (headL_noTen _ _), cutR_line _ _ (headL_noTen _ _)]
  unfold parse
  rw [hh]
  have hr : readHead (headL v cs.length) = some (v, cs.length) := by
    unfold readHead
    rw [headL_words]
    simp only [and_self, if_true]
    rw [itoa_nat, itoa_nat, dec_num, dec_num]
  simp only [hr]
  rw [if_neg (by omega), lines_clauses, play_clauses v cs.length cs 1 ⟨[], [], 0⟩ rfl hg (by simp) (by simpa using hl)]
  simp

/-! ### what is parsed is right -/
def Good (v : Nat) (st : St) : Prop := (∀ c ∈ st.cls, ∀ l ∈ c, good v l) ∧ (∀ l ∈ st.opn, good v l)
theorem take_good (v N : Nat) (st st' : St) (w : List Int) (h : take v N st w = .ok st') (hg : Good v st) : Good v st' := by
  obtain ⟨g1, g2⟩ := hg
  unfold take at h
  split at h
  · cases h
  · rename_i m n hs
    split at h
    · cases h
    · split at h
      · injection h with h; subst h
        refine ⟨fun c hc => ?_, fun l hl => by cases hl⟩
        rcases List.mem_append.1 hc with hc | hc
        · exact g1 c hc
        · rw [List.mem_singleton] at hc; subst hc; exact g2
      · rename_i hn
        split at h
        · cases h
        · rename_i hor
          injection h with h; subst h
          refine ⟨g1, fun l hl => ?_⟩
          rcases List.mem_append.1 hl with hl | hl
          · exact g2 l hl
          · rw [List.mem_singleton] at hl
            subst hl
            simp only [not_or] at hor
            unfold good Cnf.vr
            cases m <;> simp <;> omega
theorem play_good (v N : Nat) (r : List (Nat × List Int)) : ∀ st st', play v N st r = .ok st' → Good v st → Good v st' := by
  induction r with
  | nil => intro st st' h hf; injection h with h; subst h; exact hf
  | cons p r ih =>
    intro st st' h hf
    obtain ⟨q, w⟩ := p
    rw [play] at h
    cases ht : take v N st w with
    | error x => rw [ht] at h; cases h
    | ok s1 => rw [ht] at h; exact ih s1 st' h (take_good v N st s1 w ht hf)
theorem items_pos (ls : List (List Int)) : ∀ n, ∀ p ∈ items n ls, n + 1 ≤ p.1 := by
  induction ls with
  | nil => intro n p hp; cases hp
  | cons l ls ih =>
    intro n p hp
    rw [items] at hp
    rcases List.mem_append.1 hp with hp | hp
    · obtain ⟨w, _, rfl⟩ := List.mem_map.1 hp
      exact Nat.le_refl _
    · have := ih (n + 1) p hp; omega
theorem headT_pos (b : List Int) : ∀ n, n + 1 ≤ (headT n b).2.2 := by
  induction hl : b.length using Nat.strongRecOn generalizing b with
  | ind L ih =>
    intro n
    by_cases h : b = []
    · subst h; rw [headT_nil]; exact Nat.le_refl _
    · by_cases hw : words (cutL b) = []
      · rw [headT_skip _ b h hw]
        have := ih _ (by have := cut_lt b h; omega) (cutR b) rfl (n + 1)
        omega
      · rw [headT_stop _ b h hw]; exact Nat.le_refl _
theorem parse_sound (b : List Int) : ((parse b).err = 0 → (parse b).vars ≤ 1048576 ∧ ∀ c ∈ (parse b).cls, ∀ l ∈ c, good (parse b).vars l) ∧ (¬ (parse b).err = 0 → 1 ≤ (parse b).at_ ∧ (parse b).vars = 0 ∧ (parse b).cls = []) := by
  have h0 := headT_pos b 0
  unfold parse
  split
  · exact ⟨fun h => (by cases h), fun _ => ⟨by simp only; omega, rfl, rfl⟩⟩
  · split
    · exact ⟨fun h => (by cases h), fun _ => ⟨by simp only; omega, rfl, rfl⟩⟩
    · rename_i hor
      split
      · rename_i e k hp
        obtain ⟨w, hw⟩ := play_at _ _ _ _ _ _ hp
        have h1 := items_pos _ _ _ hw
        exact ⟨fun h => absurd h (play_err _ _ _ _ _ _ hp), fun _ => ⟨by simp only at h1 ⊢; omega, rfl, rfl⟩⟩
      · rename_i st hp
        split
        · exact ⟨fun h => (by cases h), fun _ => ⟨by simp only; omega, rfl, rfl⟩⟩
        · have hg := play_good _ _ _ _ _ hp (show Good _ ⟨[], [], 0⟩ from ⟨fun c hc => (by cases hc), fun l hl => (by cases hl)⟩)
          exact ⟨fun _ => ⟨by simp only; omega, hg.1⟩, fun h => absurd rfl h⟩
theorem scan_good (v : Nat) (ls : List Int) : ∀ c, (∀ l ∈ ls, good v l) → c + ls.length ≤ 16777216 → Cnf.scan v c ls = 0 := by
  induction ls with
  | nil => intro c _ _; rfl
  | cons l ls ih =>
    intro c hg h
    rw [List.length_cons] at h
    obtain ⟨g1, g2⟩ := hg l (by simp)
    rw [Cnf.scan_on _ c l ls (by omega) (by omega)]
    exact ih (c + 1) (fun x hx => hg x (by simp [hx])) (by omega)
theorem right_good (v : Nat) (cs : List (List Int)) (hv : v ≤ 1048576) (hn : cs.length ≤ 1048576) (hl : cs.flatten.length ≤ 16777216) (hg : ∀ c ∈ cs, ∀ l ∈ c, good v l) : Cnf.right v cs = 0 := by
  unfold Cnf.right
  rw [if_neg (by omega), if_neg (by omega)]
  exact scan_good v _ 0 (fun l h => by obtain ⟨c, hc, h⟩ := List.mem_flatten.1 h; exact hg c hc l h) (by omega)
theorem scan_all (v : Int) (ls : List Int) : ∀ c, Cnf.scan v c ls = 0 → ∀ l ∈ ls, 1 ≤ Cnf.vr l ∧ Cnf.vr l ≤ v := by
  induction ls with
  | nil => intro c _ l hl; cases hl
  | cons x ls ih =>
    intro c h l hl
    by_cases h1 : 16777216 < c + 1
    · rw [Cnf.scan_limit v c x ls h1] at h; cases h
    · by_cases h2 : Cnf.vr x < 1 ∨ v < Cnf.vr x
      · rw [Cnf.scan_lit v c x ls h1 h2] at h; cases h
      · rw [Cnf.scan_on v c x ls h1 h2] at h
        rcases List.mem_cons.1 hl with rfl | hl
        · omega
        · exact ih (c + 1) h l hl
/-- A right formula's text is parsed as the formula. -/
theorem parse_right (v : Int) (cs : List (List Int)) (h : Cnf.right v cs = 0) : parse (I (printB v cs)) = ⟨0, 0, v.toNat, cs⟩ := by
  obtain ⟨h1, h2, h3, h4, h5⟩ := Cnf.right_zero v cs h
  obtain ⟨u, rfl⟩ : ∃ u : Nat, v = (u : Int) := ⟨v.toNat, by omega⟩
  rw [Int.toNat_natCast]
  refine parse_print u cs (by omega) h3 h4 (fun c hc l hl => ?_)
  exact scan_all _ _ _ h5 l (List.mem_flatten.2 ⟨c, hc, hl⟩)
end Dim
