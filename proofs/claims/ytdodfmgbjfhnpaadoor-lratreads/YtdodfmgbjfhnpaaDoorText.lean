/- Steps and texts, there and back: plain lists. -/
import Derived.Test.YtdodfmgbjfhnpaaDoorSpec2
import Derived.Test.YtdodfmgbjfhnpaaDoorWrite
namespace Lra
set_option linter.unusedVariables false

def I (x : List UInt8) : List Int := x.map (fun b => (b.toNat : Int))
theorem I_app (x y : List UInt8) : I (x ++ y) = I x ++ I y := by simp [I]
theorem I_len (x : List UInt8) : (I x).length = x.length := by simp [I]
theorem I_ints (x : List UInt8) : ints ⟨x.toArray⟩ = I x := rfl
theorem I_inj {x y : List UInt8} (h : I x = I y) : x = y := by
  induction x generalizing y with
  | nil => cases y with
    | nil => rfl
    | cons b t => cases h
  | cons a x ih =>
    cases y with
    | nil => cases h
    | cons b t =>
      simp only [I, List.map_cons, List.cons.injEq] at h
      have : a = b := UInt8.toNat_inj.mp (by omega)
      rw [this, ih h.2]
theorem dig_one (u : Nat) (h : u < 10) : I [UInt8.ofNat (48 + u)] = [48 + (u : Int)] := by
  simp [I]; omega
theorem dec_step (u : Nat) (h : ¬ u < 10) : I (Go.Lib.decDigits u) = I (Go.Lib.decDigits (u / 10)) ++ [48 + ((u % 10 : Nat) : Int)] := by
  rw [Go.Lib.decDigits, dif_neg h, I_app, dig_one (u % 10) (by omega)]
theorem dec_base (u : Nat) (h : u < 10) : I (Go.Lib.decDigits u) = [48 + (u : Int)] := by
  rw [Go.Lib.decDigits_one h, dig_one u h]
theorem dec_val (u : Nat) : valGo 0 (I (Go.Lib.decDigits u)) = u := by
  induction u using Nat.strongRecOn with
  | ind u ih =>
    by_cases h : u < 10
    · rw [dec_base u h]; simp [valGo]; omega
    · rw [dec_step u h, valGo_snoc, ih (u / 10) (by omega)]; omega
theorem dec_dig (u : Nat) : ∀ x ∈ I (Go.Lib.decDigits u), 48 ≤ x ∧ x ≤ 57 := by
  induction u using Nat.strongRecOn with
  | ind u ih =>
    intro x hx
    by_cases h : u < 10
    · rw [dec_base u h] at hx; simp at hx; omega
    · rw [dec_step u h] at hx
      rcases List.mem_append.1 hx with hx | hx
      · exact ih (u / 10) (by omega) x hx
      · simp at hx; omega
theorem dec_head (u : Nat) (h0 : 0 < u) : ∃ c r, I (Go.Lib.decDigits u) = c :: r ∧ c ≠ 48 := by
  induction u using Nat.strongRecOn with
  | ind u ih =>
    by_cases h : u < 10
    · exact ⟨_, _, dec_base u h, by omega⟩
    · obtain ⟨c, r, e, hc⟩ := ih (u / 10) (by omega) (by omega)
      exact ⟨c, _, by rw [dec_step u h, e]; rfl, hc⟩
theorem dec_ne (u : Nat) : I (Go.Lib.decDigits u) ≠ [] := by
  by_cases h : u < 10
  · rw [dec_base u h]; simp
  · rw [dec_step u h]; simp
theorem dec_inv : ∀ (k : Nat) (d : List Int), d.length = k + 1 → (∀ x ∈ d, 48 ≤ x ∧ x ≤ 57) → (d.head? = some 48 → d = [48]) → d = I (Go.Lib.decDigits (valGo 0 d)) := by
  intro k
  induction k with
  | zero =>
    intro d hl hd _
    match d, hl with
    | [c], _ =>
      have := hd c (by simp)
      have hv : valGo 0 [c] = (c - 48).toNat := by simp [valGo]
      rw [hv, dec_base _ (by omega)]
      congr 1
      omega
  | succ k ih =>
    intro d hl hd h0
    have hne : d ≠ [] := by intro e; rw [e] at hl; cases hl
    obtain ⟨d', c, rfl⟩ : ∃ d' c, d = d' ++ [c] := ⟨d.dropLast, d.getLast hne, (List.dropLast_concat_getLast hne).symm⟩
    have hl' : d'.length = k + 1 := by simpa using hl
    have hh : d'.head? ≠ some 48 := by
      intro e
      have : (d' ++ [c]).head? = some 48 := by
        cases d' with
        | nil => cases e
        | cons a t => simpa using e
      have h2 := h0 this
      have h3 : (d' ++ [c]).length = 1 := by rw [h2]; rfl
      rw [List.length_append, List.length_singleton] at h3
      omega
    have ih' := ih d' hl' (fun x hx => hd x (by simp [hx])) (fun e => absurd e hh)
    have hc := hd c (by simp)
    have hpos : 0 < valGo 0 d' := by
      cases d' with
      | nil => simp at hl'
      | cons a t =>
        have ha := hd a (by simp)
        have ha' : a ≠ 48 := fun e => hh (by simp [e])
        rw [valGo]
        have := valGo_ge t (10 * 0 + (a - 48).toNat)
        omega
    rw [valGo_snoc]
    have e1 : (10 * valGo 0 d' + (c - 48).toNat) / 10 = valGo 0 d' := by omega
    have e2 : (10 * valGo 0 d' + (c - 48).toNat) % 10 = (c - 48).toNat := by omega
    rw [dec_step _ (by omega), e1, e2, ← ih']
    congr 2
    omega
theorem itoa_nat (u : Nat) : Go.Lib.itoa (u : Int) = Go.Lib.decDigits u := by unfold Go.Lib.itoa; rw [if_neg (by omega)]; congr 1
theorem itoa_negN (u : Nat) (h : 0 < u) : I (Go.Lib.itoa (-(u : Int))) = 45 :: I (Go.Lib.decDigits u) := by
  unfold Go.Lib.itoa; rw [if_pos (by omega)]; simp [I]
theorem dec_first (u : Nat) : ∃ c r, I (Go.Lib.decDigits u) = c :: r ∧ 48 ≤ c ∧ c ≤ 57 := by
  cases e : I (Go.Lib.decDigits u) with
  | nil => exact absurd e (dec_ne u)
  | cons c r => exact ⟨c, r, rfl, dec_dig u c (by rw [e]; simp)⟩
/-- A number's word. -/
def W (n : Int) : List Int := I (Go.Lib.itoa n)
theorem W_chars (i : Int) : ∀ x ∈ W i, x = 45 ∨ (48 ≤ x ∧ x ≤ 57) := by
  unfold W
  intro x hx
  by_cases h : i < 0
  · obtain ⟨u, rfl⟩ : ∃ u : Nat, i = -(u : Int) := ⟨i.natAbs, by omega⟩
    rw [itoa_negN u (by omega)] at hx
    rcases List.mem_cons.1 hx with rfl | hx
    · exact .inl rfl
    · exact .inr (dec_dig u x hx)
  · obtain ⟨u, rfl⟩ : ∃ u : Nat, i = (u : Int) := ⟨i.toNat, by omega⟩
    rw [itoa_nat] at hx
    exact .inr (dec_dig u x hx)
theorem W_0 : W 0 = [48] := by
  unfold W
  rw [show (0 : Int) = ((0 : Nat) : Int) from rfl, itoa_nat, dec_base 0 (by decide)]; rfl
theorem numD_dec (u : Nat) (neg : Bool) (h0 : neg = true → 0 < u) (hu : u ≤ 4611686018427387903) : numD (I (Go.Lib.decDigits u)) neg = some (if neg = true then -(u : Int) else u) := by
  unfold numD
  rw [if_neg]
  · rw [numT_fit _ _ (fun x hx => by have := dec_dig u x hx; unfold digit; simp; omega) (by rw [dec_val]; exact hu), dec_val]
  · obtain ⟨c, r, e, h1, h2⟩ := dec_first u
    by_cases hz : u = 0
    · subst hz
      have hn : neg = false := by cases neg with
        | false => rfl
        | true => exact absurd (h0 rfl) (by decide)
      rw [dec_base 0 (by decide), hn]
      decide
    · obtain ⟨c, r, e, hc⟩ := dec_head u (by omega)
      rw [e]
      simp [List.getD]
      intro h; exact absurd h hc
theorem numL_W (n : Int) (h0 : -4611686018427387903 ≤ n) (h1 : n ≤ 4611686018427387903) : numL (W n) = some n := by
  unfold numL W
  by_cases h : n < 0
  · obtain ⟨u, rfl⟩ : ∃ u : Nat, n = -(u : Int) := ⟨n.natAbs, by omega⟩
    rw [itoa_negN u (by omega), if_pos (by simp), List.tail_cons, numD_dec u true (fun _ => by omega) (by omega)]
    rfl
  · obtain ⟨u, rfl⟩ : ∃ u : Nat, n = (u : Int) := ⟨n.toNat, by omega⟩
    rw [itoa_nat]
    obtain ⟨c, r, e, h2, h3⟩ := dec_first u
    rw [if_neg (by rw [e]; simp; omega), numD_dec u false (fun h => by cases h) (by omega)]
    rfl
theorem numD_inv {d : List Int} {neg : Bool} {n : Int} (h : numD d neg = some n) : d = I (Go.Lib.decDigits (valGo 0 d)) ∧ n = (if neg = true then -(valGo 0 d : Int) else valGo 0 d) ∧ (neg = true → 0 < valGo 0 d) := by
  unfold numD at h
  split at h
  · cases h
  · next hc =>
    unfold numT at h
    split at h
    · cases h
    · next hb =>
      simp at hc hb h
      obtain ⟨hb1, hb2⟩ := hb
      have hdig : ∀ x ∈ d, 48 ≤ x ∧ x ≤ 57 := fun x hx => by have := hb1 x hx; unfold digit at this; simp at this; exact this
      have hne : d.length ≠ 0 := by simpa using hc.1
      have hinv := dec_inv (d.length - 1) d (by omega) hdig (fun e => by
        cases d with
        | nil => cases e
        | cons a t =>
          simp at e
          have := (hc.2 (by simp [e])).2
          exact this)
      refine ⟨hinv, h.symm, fun hn => ?_⟩
      cases d with
      | nil => simp at hne
      | cons a t =>
        have ha := hdig a (by simp)
        have ha' : a ≠ 48 := fun e => by
          have := (hc.2 (by simp [e])).1
          rw [hn] at this; cases this
        rw [valGo]
        have := valGo_ge t (10 * 0 + (a - 48).toNat)
        omega
theorem numL_inv {w : List Int} {n : Int} (h : numL w = some n) : w = W n := by
  unfold numL at h
  unfold W
  split at h
  · next hh =>
    obtain ⟨h1, h2, h3⟩ := numD_inv h
    have hp := h3 rfl
    rw [if_pos rfl] at h2
    cases w with
    | nil => cases hh
    | cons a t =>
      simp at hh
      subst hh
      simp only [List.tail_cons] at h1 h2 hp
      rw [h2, itoa_negN _ hp, ← h1]
  · obtain ⟨h1, h2, _⟩ := numD_inv h
    rw [if_neg (by decide)] at h2
    rw [h2, itoa_nat]
    exact h1
/-- Words with blanks between them. -/
def join : List (List Int) → List Int
  | [] => []
  | [w] => w
  | w :: ws => w ++ 32 :: join ws
theorem join_cons (w : List Int) (ws : List (List Int)) (h : ws ≠ []) : join (w :: ws) = w ++ 32 :: join ws := by
  cases ws with
  | nil => exact absurd rfl h
  | cons _ _ => rfl
theorem cut_join : ∀ (ws : List (List Int)), ws ≠ [] → (∀ w ∈ ws, (32 : Int) ∉ w) → cutAll 32 (join ws) = ws := by
  intro ws
  induction ws with
  | nil => intro h; exact absurd rfl h
  | cons w ws ih =>
    intro _ hb
    cases ws with
    | nil => exact cutAll_none 32 w (hb w (by simp))
    | cons v vs =>
      rw [join_cons w _ (by simp), cutAll_at 32 w _ (hb w (by simp)), ih (by simp) (fun u hu => hb u (by simp [hu]))]
theorem join_cut (l : List Int) : join (cutAll 32 l) = l := by
  induction l with
  | nil => rfl
  | cons x xs ih =>
    unfold cutAll
    split
    · next hx =>
      subst hx
      rw [join_cons [] _ (cutAll_ne 32 xs), ih]; rfl
    · split
      · next h => exact absurd h (cutAll_ne 32 xs)
      · next w ws h =>
        rw [h] at ih
        cases ws with
        | nil => have e : w = xs := ih
                 rw [e]; rfl
        | cons v vs =>
          rw [join_cons _ _ (by simp)] at ih ⊢
          rw [← ih]; rfl
/-- The words of a step. -/
def wordsS (s : Stp) : List (List Int) := W s.id :: ((if s.kind = 2 then [[100]] else s.lits.map W ++ [[48]]) ++ s.hints.map W ++ [[48]])
theorem wordsS_blank (s : Stp) : ∀ w ∈ wordsS s, (32 : Int) ∉ w ∧ (10 : Int) ∉ w := by
  have hW : ∀ n, (32 : Int) ∉ W n ∧ (10 : Int) ∉ W n := fun n => ⟨fun h => by have := W_chars n _ h; omega, fun h => by have := W_chars n _ h; omega⟩
  intro w hw
  unfold wordsS at hw
  simp only [List.mem_cons, List.mem_append, List.not_mem_nil, or_false] at hw
  rcases hw with rfl | (hw | hw) | rfl
  · exact hW _
  · split at hw
    · simp at hw; subst hw; decide
    · simp only [List.mem_append, List.mem_map, List.mem_cons, List.not_mem_nil, or_false] at hw
      rcases hw with ⟨n, _, rfl⟩ | rfl
      · exact hW _
      · decide
  · obtain ⟨n, _, rfl⟩ := List.mem_map.1 hw
    exact hW _
  · decide
theorem join_map (f : List (List Int)) (r : List (List Int)) (hr : r ≠ []) : join (f ++ r) = (f.map (fun w => w ++ [32])).flatten ++ join r := by
  induction f with
  | nil => simp
  | cons w f ih =>
    rw [List.cons_append, join_cons _ _ (by simp [hr]), ih]
    simp
theorem row_I (xs : List Int) : I (rowB xs) = ((xs.map W).map (fun w => w ++ [32])).flatten := by
  induction xs with
  | nil => rfl
  | cons x xs ih =>
    have e : rowB (x :: xs) = wordB x ++ rowB xs := by simp [rowB]
    rw [e, I_app, ih]
    simp [wordB, I_app, W]
    rfl
theorem line_I (s : Stp) : I (lineB s) = join (wordsS s) ++ [10] := by
  unfold lineB wordsS
  have e0 : Go.Lib.itoa 0 = [48] := by
    have := W_0
    exact I_inj (by unfold W at this; rw [this]; rfl)
  rw [join_cons _ _ (by simp), join_map _ _ (by simp)]
  split
  · simp only [I_app, row_I, wordB, List.map_append, List.flatten_append, e0, W]
    simp [join, I]
  · simp only [I_app, row_I, wordB, List.map_append, List.flatten_append, e0, W]
    simp [join, I]
theorem listW_words (chk : Int → Bool) (hchk : ∀ x, chk x = true → x ≠ 0 ∧ -4611686018427387903 ≤ x ∧ x ≤ 4611686018427387903) (xs : List Int) (r : List (List Int)) (h : ∀ x ∈ xs, chk x = true) : listW chk (xs.map W ++ [48] :: r) = some (xs, r) := by
  induction xs with
  | nil =>
    rw [List.map_nil, List.nil_append, listW, ← W_0, numL_W 0 (by decide) (by decide)]
    rfl
  | cons x xs ih =>
    have hx := hchk x (h x (by simp))
    rw [List.map_cons, List.cons_append, listW, numL_W x hx.2.1 hx.2.2]
    simp only
    rw [if_neg hx.1, if_pos (h x (by simp)), ih (fun y hy => h y (by simp [hy]))]
theorem listW_inv {chk : Int → Bool} : ∀ {ws : List (List Int)} {xs : List Int} {r : List (List Int)}, listW chk ws = some (xs, r) → ws = xs.map W ++ [48] :: r := by
  intro ws
  induction ws with
  | nil => intro xs r h; cases h
  | cons w ws ih =>
    intro xs r h
    rw [listW] at h
    split at h
    · cases h
    · next n hn =>
      split at h
      · next h0 =>
        cases h
        rw [numL_inv hn, h0, W_0]; rfl
      · split at h
        · split at h
          · cases h
          · next ys r' hl =>
            cases h
            rw [numL_inv hn, ih hl]; rfl
        · cases h
theorem chk_literal (x : Int) (h : literal x = true) : x ≠ 0 ∧ -4611686018427387903 ≤ x ∧ x ≤ 4611686018427387903 := by unfold literal at h; simp at h; omega
theorem chk_hint (x : Int) (h : hint x = true) : x ≠ 0 ∧ -4611686018427387903 ≤ x ∧ x ≤ 4611686018427387903 := by unfold hint at h; simp at h; omega
theorem chk_added (x : Int) (h : added x = true) : x ≠ 0 ∧ -4611686018427387903 ≤ x ∧ x ≤ 4611686018427387903 := by unfold added at h; simp at h; omega
theorem W_ne100 (n : Int) : W n ≠ [100] := fun e => by have := W_chars n 100 (by rw [e]; simp); omega
theorem stepW_words (s : Stp) (h : may s = true) : stepW (wordsS s) = some s := by
  obtain ⟨k, i, l, hs⟩ := s
  have hf := may_fits h
  unfold wordsS
  simp only at hf ⊢
  rw [stepW, numL_W i (by omega) (by omega)]
  simp only
  unfold may at h
  simp only at h
  split at h
  · next hk =>
    subst hk
    simp only [Bool.and_eq_true, List.all_eq_true] at h
    have hkn : known i = true := by have := h.1; unfold added at this; unfold known; simp at this ⊢; omega
    rw [if_pos hkn, if_neg (by decide : ¬ (1 : Int) = 2), if_neg]
    · unfold addW
      rw [if_pos h.1, List.append_assoc, List.append_assoc, List.singleton_append, listW_words literal chk_literal l _ h.2.1]
      simp only
      rw [listW_words hint chk_hint hs [] h.2.2]
      rfl
    · rintro ⟨h1, _⟩
      cases l with
      | nil => simp at h1
      | cons x l => simp at h1; exact W_ne100 x h1
  · split at h
    · next hk =>
      subst hk
      simp only [Bool.and_eq_true, List.all_eq_true, List.isEmpty_iff] at h
      obtain ⟨h1, rfl, h3⟩ := h
      rw [if_pos h1, if_pos rfl, if_pos (by simp)]
      unfold delW
      have et : (([[100]] : List (List Int)) ++ hs.map W ++ [[48]]).tail = hs.map W ++ [48] :: [] := rfl
      rw [et, listW_words added chk_added hs [] h3]
      rfl
    · cases h
theorem stepW_inv {ws : List (List Int)} {x : Stp} (h : stepW ws = some x) : ws = wordsS x := by
  cases ws with
  | nil => cases h
  | cons w ws =>
    rw [stepW] at h
    split at h
    · cases h
    · next id hn =>
      have hw := numL_inv hn
      split at h
      · split at h
        · next hd =>
          unfold delW at h
          split at h
          · cases h
          · next xs r hl =>
            split at h
            · next hr =>
              cases h
              have e := listW_inv hl
              rw [hr] at e
              unfold wordsS
              simp only [if_true]
              rw [hw]
              congr 1
              cases ws with
              | nil => cases hd.1
              | cons a t =>
                have ha : a = [100] := by simpa using hd.1
                have e' : t = xs.map W ++ [[48]] := e
                rw [ha, e']; rfl
            · cases h
        · unfold addW at h
          split at h
          · split at h
            · cases h
            · next ls r hl =>
              split at h
              · cases h
              · next hs r' hl' =>
                split at h
                · next hr =>
                  cases h
                  have e := listW_inv hl
                  have e' := listW_inv hl'
                  rw [hr] at e'
                  unfold wordsS
                  rw [if_neg (by decide : ¬ (1 : Int) = 2), hw, e, e']
                  simp
                · cases h
          · cases h
      · cases h
theorem line_no10 (s : Stp) : (10 : Int) ∉ join (wordsS s) := by
  have : ∀ ws : List (List Int), (∀ w ∈ ws, (10 : Int) ∉ w) → (10 : Int) ∉ join ws := by
    intro ws
    induction ws with
    | nil => intro _ h; cases h
    | cons w ws ih =>
      intro hb h
      cases ws with
      | nil => exact hb w (by simp) h
      | cons v vs =>
        rw [join_cons _ _ (by simp), List.mem_append, List.mem_cons] at h
        rcases h with h | h | h
        · exact hb w (by simp) h
        · cases h
        · exact ih (fun u hu => hb u (by simp [hu])) h
  exact this _ (fun w hw => (wordsS_blank s w hw).2)
theorem stepLine_line (s : Stp) (h : may s = true) : stepLine (I (lineB s)) = some s := by
  rw [line_I]
  unfold stepLine
  rw [if_pos (by simp), List.dropLast_concat, cut_join _ (by simp [wordsS]) (fun w hw => (wordsS_blank s w hw).1), stepW_words s h]
theorem stepLine_inv {l : List Int} {x : Stp} (h : stepLine l = some x) : l = I (lineB x) := by
  unfold stepLine at h
  split at h
  · next h10 =>
    have e := stepW_inv h
    have e2 := join_cut l.dropLast
    rw [e] at e2
    rw [line_I, e2]
    have hne : l ≠ [] := by intro e3; rw [e3] at h10; cases h10
    have h3 := List.dropLast_concat_getLast hne
    have h4 : l.getLast hne = 10 := by
      rw [List.getLast?_eq_some_getLast hne] at h10
      exact Option.some.inj h10
    rw [h4] at h3
    exact h3.symm
  · cases h
theorem linesL_text (ss : List Stp) : linesL (I (textB ss)) = ss.map (fun s => I (lineB s)) := by
  induction ss with
  | nil => rfl
  | cons s ss ih =>
    have e : textB (s :: ss) = lineB s ++ textB ss := by simp [textB]
    rw [e, I_app, line_I, List.append_assoc, List.singleton_append, linesL_at _ _ (line_no10 s), ih, List.map_cons, line_I]
theorem parseGo_lines (ss : List Stp) (acc : List Stp) (h : ss.all may = true) : parseGo acc (ss.map (fun s => I (lineB s))) = .ok (acc ++ ss) := by
  induction ss generalizing acc with
  | nil => simp [parseGo]
  | cons s ss ih =>
    simp only [List.all_cons, Bool.and_eq_true] at h
    rw [List.map_cons, parseGo, stepLine_line s h.1]
    simp only
    rw [ih _ h.2, List.append_assoc]; rfl
theorem parseGo_inv {ls : List (List Int)} {acc ss : List Stp} (h : parseGo acc ls = .ok ss) : ∃ tl, ss = acc ++ tl ∧ ls = tl.map (fun s => I (lineB s)) := by
  induction ls generalizing acc with
  | nil => cases h; exact ⟨[], by simp, rfl⟩
  | cons l ls ih =>
    rw [parseGo] at h
    cases hs : stepLine l with
    | none => rw [hs] at h; cases h
    | some x =>
      rw [hs] at h
      obtain ⟨tl, h1, h2⟩ := ih h
      exact ⟨x :: tl, by rw [h1]; simp, by rw [h2, stepLine_inv hs]; rfl⟩
/-- Parse of Write. -/
theorem parse_text (ss : List Stp) (h : ss.all may = true) : parse (I (textB ss)) = .ok ss := by
  unfold parse
  rw [linesL_text, parseGo_lines ss [] h]; rfl
/-- Write of Parse. -/
theorem text_parse {s : List Int} {ss : List Stp} (h : parse s = .ok ss) : s = I (textB ss) ∧ ss.all may = true := by
  unfold parse at h
  obtain ⟨tl, h1, h2⟩ := parseGo_inv h
  have h3 := (parseGo_ok h).2.2 rfl
  rw [List.nil_append] at h1
  subst h1
  refine ⟨?_, h3⟩
  have := linesL_flat s
  rw [h2, ← linesL_text, linesL_flat] at this
  exact this.symm
end Lra
