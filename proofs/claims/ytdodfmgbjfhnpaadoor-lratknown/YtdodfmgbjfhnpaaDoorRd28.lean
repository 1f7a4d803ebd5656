/- A line read. -/
import Derived.Test.YtdodfmgbjfhnpaaDoorLinks
namespace Go.Proofs.YtdodfmgbjfhnpaaDoor
open Go.RowKit
set_option linter.unusedVariables false
set_option linter.unusedSimpArgs false

/-- What a row of hints does to the reader, in words. -/
def HintsW (chk : Int → Bool) (base rb : Nat) (W : World) (rest : ByteArray) (more : Bool) (kd id : Int) (ls : List Int) (it : Nat) (lv hv : Value) (e : Ending) (w' : World) : Prop :=
  (Lra.listW chk (wordsOf rest more) = none ∧ e = .returned (.bool false) ∧ ∃ lv' hv', Mv rb W w' lv hv lv' hv')
  ∨ (∃ xs p2 p3 hv', Lra.listW chk (wordsOf rest more) = some (xs, wordsOf p2 p3) ∧ e = .returned (.bool true) ∧ RdO base rb w' p2 p3 kd id ls xs ((it + xs.length : Nat) : Int) lv hv' ∧ Mv rb W w' lv hv lv hv' ∧ p2.size ≤ rest.size ∧ xs.length + far p2 p3 ≤ far rest more)
theorem hints_words {chk : Int → Bool} {base rb : Nat} {W : World} {rest : ByteArray} {more : Bool} {kd id : Int} {ls : List Int} {it : Nat} {lv hv : Value} {e : Ending} {w' : World} (hf : it + far rest more ≤ 16777216) (h : HintsTo chk base rb W rest more kd id ls it lv hv e w') : HintsW chk base rb W rest more kd id ls it lv hv e w' := by
  rcases listB_words chk (far rest more + 1) rest more [] (by omega) with ⟨h1, h2⟩ | ⟨xs, r, p2, p3, h1, h2, h3, h4, h5⟩
  · rcases h with ⟨_, he, hm⟩ | ⟨ys, q2, q3, hl, _⟩
    · exact .inl ⟨h1, he, hm⟩
    · rw [h2] at hl; cases hl
  · rcases h with ⟨hl, _⟩ | ⟨ys, q2, q3, hl, he, hv', hR, hM⟩
    · rw [h2] at hl; cases hl
    · rw [h2] at hl
      simp only [List.nil_append, Option.some.injEq, Prod.mk.injEq] at hl
      obtain ⟨rfl, rfl, rfl⟩ := hl
      rw [List.take_of_length_le (by omega)] at hR
      exact .inr ⟨xs, p2, p3, hv', by rw [h3]; exact h1, he, by simpa using hR, hM, h4, h5⟩
/-- What a row of literals does to the reader, in words. -/
def LitsW (chk : Int → Bool) (base rb : Nat) (W : World) (rest : ByteArray) (more : Bool) (kd id : Int) (hs : List Int) (it : Nat) (lv hv : Value) (e : Ending) (w' : World) : Prop :=
  (Lra.listW chk (wordsOf rest more) = none ∧ e = .returned (.bool false) ∧ ∃ lv' hv', Mv rb W w' lv hv lv' hv')
  ∨ (∃ xs p2 p3 lv', Lra.listW chk (wordsOf rest more) = some (xs, wordsOf p2 p3) ∧ e = .returned (.bool true) ∧ RdO base rb w' p2 p3 kd id xs hs ((it + xs.length : Nat) : Int) lv' hv ∧ Mv rb W w' lv hv lv' hv ∧ p2.size ≤ rest.size ∧ xs.length + far p2 p3 ≤ far rest more)
theorem lits_words {chk : Int → Bool} {base rb : Nat} {W : World} {rest : ByteArray} {more : Bool} {kd id : Int} {hs : List Int} {it : Nat} {lv hv : Value} {e : Ending} {w' : World} (hf : it + far rest more ≤ 16777216) (h : LitsTo chk base rb W rest more kd id hs it lv hv e w') : LitsW chk base rb W rest more kd id hs it lv hv e w' := by
  rcases listB_words chk (far rest more + 1) rest more [] (by omega) with ⟨h1, h2⟩ | ⟨xs, r, p2, p3, h1, h2, h3, h4, h5⟩
  · rcases h with ⟨_, he, hm⟩ | ⟨ys, q2, q3, hl, _⟩
    · exact .inl ⟨h1, he, hm⟩
    · rw [h2] at hl; cases hl
  · rcases h with ⟨hl, _⟩ | ⟨ys, q2, q3, hl, he, lv', hR, hM⟩
    · rw [h2] at hl; cases hl
    · rw [h2] at hl
      simp only [List.nil_append, Option.some.injEq, Prod.mk.injEq] at hl
      obtain ⟨rfl, rfl, rfl⟩ := hl
      rw [List.take_of_length_le (by omega)] at hR
      exact .inr ⟨xs, p2, p3, lv', by rw [h3]; exact h1, he, by simpa using hR, hM, h4, h5⟩
theorem far_le (rest : ByteArray) (more : Bool) : far rest more ≤ rest.size + 1 := by unfold far; split <;> omega

/-- What reading a line does. -/
def ReadTo (base rb : Nat) (W : World) (lv hv : Value) (r : Option Lra.Stp) (e : Ending) (w' : World) : Prop :=
  (r = none ∧ e = .returned (.bool false) ∧ ∃ lv' hv', Mv rb W w' lv hv lv' hv')
  ∨ (∃ x rest more lv' hv', r = some x ∧ e = .returned (.bool true) ∧ RdO base rb w' rest more x.kind x.id x.lits x.hints ((x.lits.length + x.hints.length : Nat) : Int) lv' hv' ∧ Mv rb W w' lv hv lv' hv')

/-- The reader made new. -/
def anew (rb : Nat) (W : World) (r : ByteArray) (m : Bool) (v1 v2 : Value) : World :=
  (((((((W.setCell ⟨rb, 0, none⟩ (.string r)).setCell ⟨rb, 1, none⟩ (.bool m)).setCell ⟨rb, 2, none⟩ (.int .u8 0)).setCell ⟨rb, 3, none⟩ (.int .i64 0)).setCell ⟨rb, 4, none⟩ v1).setCell ⟨rb, 5, none⟩ v2).setCell ⟨rb, 6, none⟩ (.int .i64 0)).drew
theorem RdO.cutL {base rb : Nat} {W : World} {rest : ByteArray} {more : Bool} {kd id : Int} {ls hs : List Int} {it : Int} {o1 : Option Addr} {c1 : Nat} {hv : Value} (h : RdO base rb W rest more kd id ls hs it (.slice o1 ls.length c1) hv) : RdO base rb (W.setCell ⟨rb, 4, none⟩ (.slice o1 0 c1)) rest more kd id [] hs it (.slice o1 0 c1) hv :=
  ⟨h.rd.lits _, h.lt, own_set (own_cut h.lo) h.lt _, own_set h.ho h.lt _⟩
theorem RdO.cutH {base rb : Nat} {W : World} {rest : ByteArray} {more : Bool} {kd id : Int} {ls hs : List Int} {it : Int} {o2 : Option Addr} {c2 : Nat} {lv : Value} (h : RdO base rb W rest more kd id ls hs it lv (.slice o2 hs.length c2)) : RdO base rb (W.setCell ⟨rb, 5, none⟩ (.slice o2 0 c2)) rest more kd id ls [] it lv (.slice o2 0 c2) :=
  ⟨h.rd.hints _, h.lt, own_set h.lo h.lt _, own_set (own_cut h.ho) h.lt _⟩
theorem RdO.drew {base rb : Nat} {W : World} {rest : ByteArray} {more : Bool} {kd id : Int} {ls hs : List Int} {it : Int} {lv hv : Value} (h : RdO base rb W rest more kd id ls hs it lv hv) : RdO base rb W.drew rest more kd id ls hs it lv hv := ⟨⟨h.rd.blk⟩, h.lt, h.lo, h.ho⟩
theorem RdO.anew {base rb : Nat} {W : World} {rest0 : ByteArray} {more0 : Bool} {kd id : Int} {ls hs : List Int} {it : Int} {o1 o2 : Option Addr} {c1 c2 : Nat} (h : RdO base rb W rest0 more0 kd id ls hs it (.slice o1 ls.length c1) (.slice o2 hs.length c2)) (r : ByteArray) (m : Bool) :
    RdO base rb (YtdodfmgbjfhnpaaDoor.anew rb W r m (.slice o1 0 c1) (.slice o2 0 c2)) r m 0 0 [] [] 0 (.slice o1 0 c1) (.slice o2 0 c2) :=
  ((((((((h.rests r).mores m).kinds 0).ids 0).cutL).cutH).items 0).drew)
theorem Mv.own {rb : Nat} {A B : World} {l0 h0 l1 h1 l2 h2 : Value} (h : Mv rb A B l0 h0 l1 h1) (e1 : l2.ownBlock = l1.ownBlock) (e2 : h2.ownBlock = h1.ownBlock) : Mv rb A B l0 h0 l2 h2 :=
  ⟨h.os, h.tape, h.output, h.size, h.block, fun i hi e => h.lown i hi (e1 ▸ e), fun i hi e => h.hown i hi (e2 ▸ e)⟩
theorem Mv.drew {rb : Nat} {A B : World} {l0 h0 l1 h1 : Value} (h : Mv rb A B l0 h0 l1 h1) : Mv rb A B.drew l0 h0 l1 h1 := ⟨h.os, h.tape, h.output, h.size, h.block, h.lown, h.hown⟩
theorem Mv.anew (rb : Nat) (W : World) (r : ByteArray) (m : Bool) (o1 o2 : Option Addr) (n1 n2 c1 c2 : Nat) :
    Mv rb W (YtdodfmgbjfhnpaaDoor.anew rb W r m (.slice o1 0 c1) (.slice o2 0 c2)) (.slice o1 n1 c1) (.slice o2 n2 c2) (.slice o1 0 c1) (.slice o2 0 c2) := by
  have m1 : Mv rb W (W.setCell ⟨rb, 0, none⟩ (.string r)) (.slice o1 n1 c1) (.slice o2 n2 c2) (.slice o1 n1 c1) (.slice o2 n2 c2) := Mv.set rb 0 W _ _ _
  have m2 := m1.trans (Mv.set rb 1 _ (.bool m) _ _)
  have m3 := m2.trans (Mv.set rb 2 _ (.int .u8 0) _ _)
  have m4 := m3.trans (Mv.set rb 3 _ (.int .i64 0) _ _)
  have m5 := m4.trans (Mv.set rb 4 _ (.slice o1 0 c1) _ _)
  have m6 := m5.trans (Mv.set rb 5 _ (.slice o2 0 c2) _ _)
  have m7 := (m6.trans (Mv.set rb 6 _ (.int .i64 0) _ _)).drew
  exact m7.own (by cases o1 <;> rfl) (by cases o2 <;> rfl)

theorem last_ended (L : ByteArray) : Ended L ↔ (Lra.ints L).getLast? = some 10 := by
  unfold Ended Lra.ints
  rw [List.getLast?_map]
  cases h : L.data.toList.getLast? with
  | none => simp
  | some b =>
    simp
    constructor
    · rintro rfl; rfl
    · intro h
      exact UInt8.toNat_inj.mp (by have : (10 : UInt8).toNat = 10 := rfl; omega)
theorem ints_dropLast (L : ByteArray) : Lra.ints (L.extract 0 (L.size - 1)) = (Lra.ints L).dropLast := by
  rw [Lra.ints_extract, List.drop_zero, List.dropLast_eq_take, Lra.ints_len, Nat.sub_zero]
theorem stepLine_ended (L : ByteArray) (h : Ended L) : Lra.stepLine (Lra.ints L) = Lra.stepW (wordsOf (L.extract 0 (L.size - 1)) true) := by
  unfold Lra.stepLine wordsOf
  rw [if_pos ((last_ended L).1 h), if_pos rfl, ints_dropLast]
theorem stepLine_open (L : ByteArray) (h : ¬ Ended L) : Lra.stepLine (Lra.ints L) = none := by
  unfold Lra.stepLine
  rw [if_neg (fun e => h ((last_ended L).2 e))]
end Go.Proofs.YtdodfmgbjfhnpaaDoor
