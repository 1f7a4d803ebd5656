/- The document's arena in memory. -/
import Derived.Test.YtblogmelmpkfhaaTrn
import Derived.Deep.AppendLies
namespace Arn
theorem at_take {M : List It} (hM : Oks M) {i : Nat} {x : It} (h : M[i]? = some x) : at? M (size (M.take i)) = some x ∧ ∀ y, upd M (size (M.take i)) y = M.set i y := by
  have hi := (List.getElem?_eq_some_iff.1 h).1
  have e : M = M.take i ++ x :: M.drop (i + 1) := by
    conv => lhs; rw [← List.take_append_drop i M]
    rw [List.drop_eq_getElem_cons hi]
    rw [List.getElem?_eq_getElem hi] at h
    cases h
    rfl
  have hT : Oks (M.take i) := fun y hy => hM y (List.mem_of_mem_take hy)
  constructor
  · have h1 := at_mid hT x (M.drop (i + 1))
    rw [← e] at h1
    exact h1
  · intro y
    have h1 := upd_mid hT x y (M.drop (i + 1))
    rw [← e] at h1
    rw [h1, List.set_eq_take_append_cons_drop, if_pos hi]
theorem take_of_find {M : List It} {r : Int} {x : It} (h : find M r = some x) : ∃ i, M[i]? = some x ∧ ((size (M.take i) : Nat) : Int) = r ∧ x.dead = false := by
  obtain ⟨ha, hd⟩ := find_some.1 h
  obtain ⟨A, B, rfl, rfl⟩ := at_split ha
  exact ⟨A.length, by simp, by simp, hd⟩
end Arn
namespace Go.Proofs.Ytblogmelmpkfhaa
open Go.RowKit Go.Maps
set_option linter.unusedVariables false

abbrev En := Arn.It × Option Addr × Nat
def icell (o : Int) (e : En) : List Value := [.int .i64 o, .int .i64 (e.1.room : Nat), .int .i64 e.1.id, .slice e.2.1 e.1.lits.length e.2.2, .bool e.1.red, .int .i64 e.1.lbd, .int .i64 e.1.used, .bool e.1.dead]
def irow : List En → Int → List Value
  | [], _ => []
  | e :: E, o => icell o e ++ irow E (o + e.1.room)
/-- A row of literals in a block of its own kind. -/
def LR (W : World) (a : Option Addr) (xs : List Int) : Prop :=
  (∀ x ∈ xs, -2147483648 ≤ x ∧ x ≤ 2147483647) ∧ (xs = [] ∨ ∃ b off cs, a = some ⟨b, off, none⟩ ∧ W.heap[b]? = some (.cells cs 48 (0, 0)) ∧ ∀ j, j < xs.length → cs[off + j]? = some (.int .i32 (xs.getD j 0)))
theorem LR.lits {W : World} {a : Option Addr} {xs : List Int} (h : LR W a xs) : Lits W a xs := by
  refine ⟨h.1, h.2.imp id ?_⟩
  rintro ⟨b, off, cs, e, hb, hc⟩
  exact ⟨b, off, e, lt_of_blk hb, fun j hj => by rw [row_cell hb]; exact hc j hj⟩
theorem LR.fr {p : Obj → Prop} {n : Nat} {W W' : World} {a : Option Addr} {xs : List Int} (h : LR W a xs) (hf : Fr p n W W') (hp : ∀ cs fr, ¬ p (.cells cs 48 fr)) : LR W' a xs := by
  refine ⟨h.1, h.2.imp id ?_⟩
  rintro ⟨b, off, cs, e, hb, hc⟩
  exact ⟨b, off, cs, e, hf.block b _ hb (.inr (hp _ _)), hc⟩
def items (E : List En) : List Arn.It := E.map (·.1)
/-- The document's arena. -/
structure Dc (n db lim : Nat) (v : Value) (E : List En) (W : World) : Prop where
  ndb : n ≤ db
  blk : W.heap[db]? = some (.cells #[.int .i64 lim, v, .int .i64 (Arn.size (items E) : Nat)] 72 (0, 0))
  own : W.ownsRow n 92 8 v E.length (irow E 0)
  lits : ∀ e ∈ E, LR W e.2.1 e.1.lits
  ok : Arn.Oks (items E)
  fit : Arn.size (items E) ≤ lim
  lim : lim ≤ 268435456
  caps : ∀ e ∈ E, e.1.lits.length ≤ e.2.2 ∧ e.2.2 ≤ 9223372036854775807
theorem Dc.kept {p : Obj → Prop} {n db lim m : Nat} {v : Value} {E : List En} {W W' : World} (h : Dc n db lim v E W) (hf : Fr p m W W') (h1 : ∀ cs fr, ¬ p (.cells cs 72 fr)) (h2 : ∀ cs fr, ¬ p (.cells cs 92 fr)) (h3 : ∀ cs fr, ¬ p (.cells cs 48 fr)) : Dc n db lim v E W' :=
  ⟨h.ndb, hf.block _ _ h.blk (.inr (h1 _ _)), own_fr h.own hf h2, fun e he => (h.lits e he).fr hf h3, h.ok, h.fit, h.lim, h.caps⟩
theorem Dc.below {n db lim : Nat} {v : Value} {E : List En} {W W' : World} (h : Dc n db lim v E W) (hb : Below W.heap.size W W') : Dc n db lim v E W' :=
  h.kept (p := fun _ => False) (m := 0) (Fr.of_below hb) (fun _ _ k => k) (fun _ _ k => k) (fun _ _ k => k)
theorem irow_split {E : List En} {i : Nat} {e : En} (o : Int) (h : E[i]? = some e) : irow E o = irow (E.take i) o ++ (icell (o + (Arn.size ((items E).take i) : Nat)) e ++ irow (E.drop (i + 1)) (o + (Arn.size ((items E).take i) : Nat) + e.1.room)) ∧ (irow (E.take i) o).length = i * 8 := by
  induction E generalizing i o with
  | nil => simp at h
  | cons f E ih =>
    cases i with
    | zero =>
      simp only [List.getElem?_cons_zero, Option.some.injEq] at h
      subst h
      refine ⟨?_, rfl⟩
      simp [irow, Arn.size]
    | succ i =>
      rw [List.getElem?_cons_succ] at h
      obtain ⟨h1, h2⟩ := ih (o + f.1.room) h
      have es : ((Arn.size ((items (f :: E)).take (i + 1)) : Nat) : Int) = f.1.room + (Arn.size ((items E).take i) : Nat) := by simp [items, Arn.size]
      refine ⟨?_, ?_⟩
      · rw [irow, h1, List.take_succ_cons, irow, List.drop_succ_cons, es, List.append_assoc, ← Int.add_assoc]
      · rw [List.take_succ_cons, irow, List.length_append, h2]
        simp [icell]
        omega
/-- A place's cells. -/
theorem Dc.cell {n db lim g c : Nat} {E : List En} {W : World} (h : Dc n db lim (.slice (some ⟨g, 0, none⟩) E.length c) E W) {i : Nat} {e : En} (hi : E[i]? = some e) {t : Nat} {u : Value} (ht : (icell (Arn.size ((items E).take i) : Nat) e)[t]? = some u) : W.cell? ⟨g, i * 8 + t, none⟩ = some u := by
  have hil := (List.getElem?_eq_some_iff.1 hi).1
  have ht8 : t < 8 := by
    rcases Nat.lt_or_ge t 8 with h' | h'
    · exact h'
    · rw [List.getElem?_eq_none (by simpa [icell] using h')] at ht; cases ht
  rw [h.own.cellAt _ (by omega)]
  obtain ⟨h1, h2⟩ := irow_split 0 hi
  rw [h1, List.getElem?_append_right (by omega), h2, show i * 8 + t - i * 8 = t by omega, List.getElem?_append_left (by simpa [icell] using ht8), Int.zero_add]
  exact ht
/-- What find tells. -/
def FindOut (M : List Arn.It) (r : Int) (e : Ending) : Prop := (e = .returned (.int .i64 (-1)) ∧ Arn.find M r = none) ∨ ∃ (i : Nat) (x : Arn.It), e = .returned (.int .i64 i) ∧ M[i]? = some x ∧ ((Arn.size (M.take i) : Nat) : Int) = r ∧ x.dead = false
theorem find_no {M : List Arn.It} {r : Int} (h : ∀ i x, M[i]? = some x → ((Arn.size (M.take i) : Nat) : Int) = r → x.dead = true) : Arn.find M r = none := by
  cases hf : Arn.find M r with
  | none => rfl
  | some x =>
    obtain ⟨i, h1, h2, h3⟩ := Arn.take_of_find hf
    rw [h i x h1 h2] at h3
    cases h3
theorem items_at {E : List En} {i : Nat} {e : En} (h : E[i]? = some e) : (items E)[i]? = some e.1 := by unfold items; rw [List.getElem?_map, h]; rfl
set_option maxRecDepth 100000 in
set_option maxHeartbeats 2000000 in
theorem find48 {n db lim : Nat} {v : Value} {E : List En} {W : World} (h : Dc n db lim v E W) (r : Int) :
    Calls Try.prog 48 #[.pointer (some ⟨db, 0, none⟩), .int .i64 r] W fun e w' => FindOut (items E) r e ∧ w' = W := by
  have HD := hid h
  obtain ⟨o, c, rfl⟩ := own_slc h.own
  have c1 := row_cell h.blk 1
  have hEl : E.length ≤ 67108864 := by
    have h1 : 4 * (items E).length ≤ Arn.size (items E) := by
      have hok := h.ok
      generalize items E = M at hok
      induction M with
      | nil => exact Nat.le_refl _
      | cons y M ih => have := ih hok.cons.2; have := hok.cons.1.fits; simp only [List.length_cons, Arn.size]; omega
    have := h.fit
    have := h.lim
    have h2 : (items E).length = E.length := by simp [items]
    omega
  have hsh : E.length = 0 ∨ ∃ g, o = some ⟨g, 0, none⟩ := by
    rcases Nat.eq_zero_or_pos E.length with h0 | h0
    · exact .inl h0
    · obtain ⟨g, _, e5, _, _⟩ := h.own.form h0
      cases e5
      exact .inr ⟨g, rfl⟩
  obtain ⟨L, hL⟩ : ∃ L, E.length = L := ⟨_, rfl⟩
  have HL := hid hL
  rw [hL] at c1 hEl hsh
  clear h
  rcases hsh with h0 | ⟨g, rfl⟩
  · subst h0
    have HE := hid (show Arn.find (items E) r = none by rw [List.eq_nil_of_length_eq_zero HL.out]; rfl)
    clear hL
    go_enter Try.func48, Try.ntmps48
    go_wp2
    go_loop [5] (fun i => i = .int .i64 0) (fun _ => 0)
    case atStart => rfl
    case round =>
      obtain rfl := hrel
      go_wp2
      go_ret
      exact ⟨.inl ⟨rfl, HE.out⟩, rfl⟩
  · clear hL
    go_enter Try.func48, Try.ntmps48
    go_wp2
    go_loop [5] (fun iv => ∃ i : Nat, i ≤ L ∧ iv = .int .i64 i ∧ Hid (∀ j x, j < i → (items E)[j]? = some x → ((Arn.size ((items E).take j) : Nat) : Int) = r → x.dead = true)) (fun iv => L - (intOf iv).toNat)
    case atStart => exact ⟨0, Nat.zero_le _, rfl, hid (fun j x hj => by omega)⟩
    case round =>
      obtain ⟨i, hi, rfl, HN⟩ := hrel
      by_cases hlt : i < L
      · have hlt' : (i : Int) < L := by omega
        obtain ⟨e, he⟩ : ∃ e, E[i]? = some e := ⟨_, List.getElem?_eq_getElem (by rw [HL.out]; exact hlt)⟩
        have hDD := HD.out
        have x0 := hDD.cell he (t := 0) rfl
        have x7 := hDD.cell he (t := 7) rfl
        rw [Nat.add_zero] at x0
        have HX := hid (items_at he)
        clear hDD he
        obtain ⟨p, hp⟩ : ∃ p, Arn.size ((items E).take i) = p := ⟨_, rfl⟩
        have HP := hid hp
        rw [hp] at x0
        clear hp
        by_cases hr : (p : Int) = r
        · cases hd : e.1.dead
          · rw [hd] at x7
            have hrb : ((p : Int) == r) = true := by simpa using hr
            subst hr
            have HO := hid (show FindOut (items E) p (.returned (.int .i64 i)) from .inr ⟨i, e.1, rfl, HX.out, by rw [HP.out], hd⟩)
            clear hd
            go_wp2
            go_ret
            exact ⟨HO.out, rfl⟩
          · rw [hd] at x7
            have HN' := hid (show ∀ j x, j < i + 1 → (items E)[j]? = some x → ((Arn.size ((items E).take j) : Nat) : Int) = r → x.dead = true from fun j x hj hx hs => by
              rcases Nat.lt_or_ge j i with h' | h'
              · exact HN.out j x h' hx hs
              · obtain rfl : j = i := by omega
                rw [HX.out] at hx
                cases hx
                exact hd)
            subst hr
            clear hd
            go_wp2
            go_round
            case rel => exact ⟨i + 1, by omega, by go_num, HN'⟩
            case measure => simp [intOf]; omega
        · have HN' := hid (show ∀ j x, j < i + 1 → (items E)[j]? = some x → ((Arn.size ((items E).take j) : Nat) : Int) = r → x.dead = true from fun j x hj hx hs => by
            rcases Nat.lt_or_ge j i with h' | h'
            · exact HN.out j x h' hx hs
            · obtain rfl : j = i := by omega
              exact absurd (by rw [← HP.out]; exact hs) hr)
          have hrb : ((p : Int) == r) = false := by simpa using hr
          go_wp2
          go_round
          case rel => exact ⟨i + 1, by omega, by go_num, HN'⟩
          case measure => simp [intOf]; omega
      · have hge : ¬ (i : Int) < L := by omega
        have HE := hid (find_no (M := items E) (r := r) (fun j x hj hs => HN.out j x (by
          have := (List.getElem?_eq_some_iff.1 hj).1
          have h2 : (items E).length = L := by unfold items; rw [List.length_map, HL.out]
          omega) hj hs))
        go_wp2
        go_ret
        exact ⟨.inl ⟨rfl, HE.out⟩, rfl⟩
end Go.Proofs.Ytblogmelmpkfhaa
