/- One number off a line. -/
import Derived.Test.YtdodfmgbjfhnpaaDoorRdRows
namespace Go.Proofs.YtdodfmgbjfhnpaaDoor
open Go.RowKit
set_option linter.unusedVariables false
set_option linter.unusedSimpArgs false

/-- The next word, what is left, and whether a word is left. -/
def wordB (rest : ByteArray) (more : Bool) : ByteArray × ByteArray × Bool :=
  if more = true then (if Lib.indexByte rest.data.toList 32 < 0 then (rest, ⟨#[]⟩, false) else (rest.extract 0 (Lib.indexByte rest.data.toList 32).toNat, rest.extract ((Lib.indexByte rest.data.toList 32).toNat + 1) rest.size, true))
  else (⟨#[]⟩, rest, false)
theorem wordB_size (rest : ByteArray) (more : Bool) : (wordB rest more).1.size ≤ rest.size ∧ (wordB rest more).2.1.size ≤ rest.size := by
  unfold wordB
  split
  · split
    · exact ⟨Nat.le_refl _, Nat.zero_le _⟩
    · constructor <;> rw [ByteArray.size_extract] <;> omega
  · exact ⟨Nat.zero_le _, Nat.le_refl _⟩
theorem RdO.drewN {base rb : Nat} {W : World} {rest : ByteArray} {more : Bool} {kd id : Int} {ls hs : List Int} {it : Int} {lv hv : Value} (h : RdO base rb W rest more kd id ls hs it lv hv) (q : Nat) : RdO base rb (W.drewN q) rest more kd id ls hs it lv hv := ⟨h.rd.drewN q, h.lt, h.lo, h.ho⟩
theorem RdO.rests {base rb : Nat} {W : World} {rest : ByteArray} {more : Bool} {kd id : Int} {ls hs : List Int} {it : Int} {lv hv : Value} (h : RdO base rb W rest more kd id ls hs it lv hv) (n : ByteArray) : RdO base rb (W.setCell ⟨rb, 0, none⟩ (.string n)) n more kd id ls hs it lv hv := ⟨h.rd.rests n, h.lt, own_set h.lo h.lt _, own_set h.ho h.lt _⟩
theorem RdO.mores {base rb : Nat} {W : World} {rest : ByteArray} {more : Bool} {kd id : Int} {ls hs : List Int} {it : Int} {lv hv : Value} (h : RdO base rb W rest more kd id ls hs it lv hv) (n : Bool) : RdO base rb (W.setCell ⟨rb, 1, none⟩ (.bool n)) rest n kd id ls hs it lv hv := ⟨h.rd.mores n, h.lt, own_set h.lo h.lt _, own_set h.ho h.lt _⟩
theorem RdO.ids {base rb : Nat} {W : World} {rest : ByteArray} {more : Bool} {kd id : Int} {ls hs : List Int} {it : Int} {lv hv : Value} (h : RdO base rb W rest more kd id ls hs it lv hv) (n : Int) : RdO base rb (W.setCell ⟨rb, 3, none⟩ (.int .i64 n)) rest more kd n ls hs it lv hv := ⟨h.rd.ids n, h.lt, own_set h.lo h.lt _, own_set h.ho h.lt _⟩
theorem RdO.kinds {base rb : Nat} {W : World} {rest : ByteArray} {more : Bool} {kd id : Int} {ls hs : List Int} {it : Int} {lv hv : Value} (h : RdO base rb W rest more kd id ls hs it lv hv) (n : Int) : RdO base rb (W.setCell ⟨rb, 2, none⟩ (.int .u8 n)) rest more n id ls hs it lv hv := ⟨h.rd.kinds n, h.lt, own_set h.lo h.lt _, own_set h.ho h.lt _⟩

theorem wordO (base rb : Nat) (W : World) (rest : ByteArray) (more : Bool) (kd id : Int) (ls hs : List Int) (it : Int) (lv hv : Value) (h : RdO base rb W rest more kd id ls hs it lv hv) (hS : (rest.size : Int) ≤ 1099511627776) :
    Calls Tryd.prog 64 #[.pointer (some ⟨rb, 0, none⟩)] W fun e w' => e = .returned (.string (wordB rest more).1) ∧ RdO base rb w' (wordB rest more).2.1 (wordB rest more).2.2 kd id ls hs it lv hv ∧ Mv rb W w' lv hv lv hv := by
  refine (word64 rb W rest more kd id lv hv it h.rd hS).mono ?_
  rintro e w' (⟨rfl, rfl, rfl⟩ | ⟨rfl, i, q, hi, hx, rfl, rfl⟩ | ⟨rfl, q, hx, rfl, rfl⟩)
  · exact ⟨rfl, h, Mv.refl _ _ _ _⟩
  · have e1 : wordB rest true = (rest.extract 0 i, rest.extract (i + 1) rest.size, true) := by
      unfold wordB
      rw [if_pos rfl, hx, if_neg (by omega)]
      simp
    rw [e1]
    exact ⟨rfl, ((h.drewN q).rests _).mores _, ((Mv.drewN rb q W lv hv).trans (Mv.set rb 0 _ _ lv hv)).trans (Mv.set rb 1 _ _ lv hv)⟩
  · have e1 : wordB rest true = (rest, ⟨#[]⟩, false) := by
      unfold wordB
      rw [if_pos rfl, hx]; rfl
    rw [e1]
    exact ⟨rfl, ((h.drewN q).rests _).mores _, ((Mv.drewN rb q W lv hv).trans (Mv.set rb 0 _ _ lv hv)).trans (Mv.set rb 1 _ _ lv hv)⟩

/-- What a line's first number does: p1 is the word, p2 and p3 what is left. -/
def OneTo (base rb : Nat) (W : World) (p1 p2 : ByteArray) (p3 : Bool) (kd id : Int) (ls hs : List Int) (it : Int) (lv hv : Value) (e : Ending) (w' : World) : Prop :=
  (Lra.numL (Lra.ints p1) = none ∧ e = .returned (.bool false) ∧ RdO base rb w' p2 p3 kd id ls hs it lv hv ∧ Mv rb W w' lv hv lv hv)
  ∨ (∃ n, Lra.numL (Lra.ints p1) = some n ∧ e = .returned (.bool (Lra.known n)) ∧ RdO base rb w' p2 p3 kd n ls hs it lv hv ∧ Mv rb W w' lv hv lv hv)

set_option maxRecDepth 100000 in
set_option maxHeartbeats 4000000 in
theorem one47 (base rb : Nat) (W : World) (rest : ByteArray) (more : Bool) (kd id : Int) (ls hs : List Int) (it : Int) (lv hv : Value) (h : RdO base rb W rest more kd id ls hs it lv hv) (hS : (rest.size : Int) ≤ 1099511627776) :
    Calls Tryd.prog 47 #[.pointer (some ⟨rb, 0, none⟩), .func (.func 48) #[.pointer (some ⟨rb, 0, none⟩)] #[]] W fun e w' => OneTo base rb W (wordB rest more).1 (wordB rest more).2.1 (wordB rest more).2.2 kd id ls hs it lv hv e w' := by
  have H64 := hid (wordO base rb W rest more kd id ls hs it lv hv h hS)
  have hws := (wordB_size rest more).1
  have H63 := fun w => number63 (wordB rest more).1 w (by omega)
  have C48 := fun (w : World) (n : Int) (p2 : ByteArray) (p3 : Bool) (hR : RdO base rb w p2 p3 kd id ls hs it lv hv) => takeID48 rb w p2 p3 kd id lv hv it n hR.rd
  generalize (wordB rest more).2.2 = p3 at *
  generalize (wordB rest more).2.1 = p2 at *
  generalize (wordB rest more).1 = p1 at *
  cases hn : Lra.numL (Lra.ints p1) with
  | none =>
    have K63 : ∀ w, Hid (Calls Tryd.prog 63 #[.string p1] w fun e w' => e = .returned (.tuple #[.int .i64 0, .bool false]) ∧ w' = w) := fun w => hid (by have := H63 w; rw [hn] at this; exact this)
    have HN := hid hn
    clear h hS hws hn H63 C48
    go_enter Tryd.func47, Tryd.ntmps47
    go_wp2_with (first | (go_at_call 64; refine H64.out.mono ?_; clear H64; rintro e W1 ⟨rfl, h⟩; have HR := hid h; clear h) | (go_at_call 63; refine (K63 _).out.mono ?_; clear K63; rintro e W2 ⟨rfl, rfl⟩))
    go_ret
    exact .inl ⟨HN.out, rfl, HR.out.1, HR.out.2⟩
  | some n =>
    have K63 : ∀ w, Hid (Calls Tryd.prog 63 #[.string p1] w fun e w' => e = .returned (.tuple #[.int .i64 n, .bool true]) ∧ w' = w) := fun w => hid (by have := H63 w; rw [hn] at this; exact this)
    have HN := hid hn
    have K48 := fun (w : World) (hR : RdO base rb w p2 p3 kd id ls hs it lv hv) => hid (C48 w n p2 p3 hR)
    clear h hS hws hn H63 C48
    go_enter Tryd.func47, Tryd.ntmps47
    go_wp2_with (first | (go_at_call 64; refine H64.out.mono ?_; clear H64; rintro e W1 ⟨rfl, h⟩; have HR := hid h; clear h) | (go_at_call 63; refine (K63 _).out.mono ?_; clear K63; rintro e W2 ⟨rfl, rfl⟩) | (go_at_call 48; refine (K48 _ HR.out.1).out.mono ?_; clear K48; rintro e W3 ⟨rfl, h⟩; have HW := hid h; clear h))
    go_ret
    refine .inr ⟨n, HN.out, rfl, ?_, ?_⟩
    · rw [HW.out]; exact HR.out.1.ids n
    · rw [HW.out]; exact HR.out.2.trans (Mv.set rb 3 _ _ lv hv)
end Go.Proofs.YtdodfmgbjfhnpaaDoor
