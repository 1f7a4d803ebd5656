/- The reader of a line: its block and its small steps, by the program. -/
import Derived.Test.YtdodfmgbjfhnpaaDoorEnds
import Derived.Test.YtdodfmgbjfhnpaaDoorRoom
namespace Go.Proofs.YtdodfmgbjfhnpaaDoor
open Go.RowKit
set_option linter.unusedVariables false
set_option linter.unusedSimpArgs false

/-- A reader in block rb. -/
structure Rd (rb : Nat) (W : World) (rest : ByteArray) (more : Bool) (kd id : Int) (lv hv : Value) (it : Int) : Prop where
  blk : W.heap[rb]? = some (.cells #[.string rest, .bool more, .int .u8 kd, .int .i64 id, lv, hv, .int .i64 it] 59 (0, 0))
theorem Rd.drewN {rb : Nat} {W : World} {rest : ByteArray} {more : Bool} {kd id : Int} {lv hv : Value} {it : Int} (h : Rd rb W rest more kd id lv hv it) (q : Nat) : Rd rb (W.drewN q) rest more kd id lv hv it := ⟨h.blk⟩
theorem Rd.items {rb : Nat} {W : World} {rest : ByteArray} {more : Bool} {kd id : Int} {lv hv : Value} {it : Int} (h : Rd rb W rest more kd id lv hv it) (n : Int) : Rd rb (W.setCell ⟨rb, 6, none⟩ (.int .i64 n)) rest more kd id lv hv n := ⟨by
  rw [heap_set_row (k := 6) h.blk (.int .i64 n)]; rfl⟩
theorem Rd.ids {rb : Nat} {W : World} {rest : ByteArray} {more : Bool} {kd id : Int} {lv hv : Value} {it : Int} (h : Rd rb W rest more kd id lv hv it) (n : Int) : Rd rb (W.setCell ⟨rb, 3, none⟩ (.int .i64 n)) rest more kd n lv hv it := ⟨by
  rw [heap_set_row (k := 3) h.blk (.int .i64 n)]; rfl⟩
theorem Rd.rests {rb : Nat} {W : World} {rest : ByteArray} {more : Bool} {kd id : Int} {lv hv : Value} {it : Int} (h : Rd rb W rest more kd id lv hv it) (n : ByteArray) : Rd rb (W.setCell ⟨rb, 0, none⟩ (.string n)) n more kd id lv hv it := ⟨by
  rw [heap_set_row (k := 0) h.blk (.string n)]; rfl⟩
theorem Rd.mores {rb : Nat} {W : World} {rest : ByteArray} {more : Bool} {kd id : Int} {lv hv : Value} {it : Int} (h : Rd rb W rest more kd id lv hv it) (n : Bool) : Rd rb (W.setCell ⟨rb, 1, none⟩ (.bool n)) rest n kd id lv hv it := ⟨by
  rw [heap_set_row (k := 1) h.blk (.bool n)]; rfl⟩
theorem Rd.kinds {rb : Nat} {W : World} {rest : ByteArray} {more : Bool} {kd id : Int} {lv hv : Value} {it : Int} (h : Rd rb W rest more kd id lv hv it) (n : Int) : Rd rb (W.setCell ⟨rb, 2, none⟩ (.int .u8 n)) rest more n id lv hv it := ⟨by
  rw [heap_set_row (k := 2) h.blk (.int .u8 n)]; rfl⟩
theorem Rd.lits {rb : Nat} {W : World} {rest : ByteArray} {more : Bool} {kd id : Int} {lv hv : Value} {it : Int} (h : Rd rb W rest more kd id lv hv it) (n : Value) : Rd rb (W.setCell ⟨rb, 4, none⟩ n) rest more kd id n hv it := ⟨by
  rw [heap_set_row (k := 4) h.blk n]; rfl⟩
theorem Rd.hints {rb : Nat} {W : World} {rest : ByteArray} {more : Bool} {kd id : Int} {lv hv : Value} {it : Int} (h : Rd rb W rest more kd id lv hv it) (n : Value) : Rd rb (W.setCell ⟨rb, 5, none⟩ n) rest more kd id lv n it := ⟨by
  rw [heap_set_row (k := 5) h.blk n]; rfl⟩
theorem Rd.cells {rb : Nat} {W : World} {rest : ByteArray} {more : Bool} {kd id : Int} {lv hv : Value} {it : Int} (h : Rd rb W rest more kd id lv hv it) (k : Nat) (v : Value) (hk : (#[Value.string rest, .bool more, .int .u8 kd, .int .i64 id, lv, hv, .int .i64 it])[k]? = some v) : W.cell? ⟨rb, k, none⟩ = some v := by
  rw [row_cell h.blk k, hk]

set_option maxRecDepth 100000 in
set_option maxHeartbeats 2000000 in
theorem room66 (rb : Nat) (W : World) (rest : ByteArray) (more : Bool) (kd id : Int) (lv hv : Value) (it : Int) (h : Rd rb W rest more kd id lv hv it) (h0 : 0 ≤ it) (h1 : it ≤ 1099511627776) :
    Calls Tryd.prog 66 #[.pointer (some ⟨rb, 0, none⟩)] W fun e w' => e = .returned (.bool (decide (it + 1 ≤ 16777216))) ∧ w' = W.setCell ⟨rb, 6, none⟩ (.int .i64 (it + 1)) := by
  have c6 := h.cells 6 _ rfl
  have f6 := row_frozen h.blk 6
  have c6' := (h.items (it + 1)).cells 6 _ rfl
  clear h
  go_enter Tryd.func66, Tryd.ntmps66
  go_wp2
  go_ret
  exact ⟨rfl, rfl⟩

set_option maxRecDepth 100000 in
set_option maxHeartbeats 2000000 in
theorem takeID48 (rb : Nat) (W : World) (rest : ByteArray) (more : Bool) (kd id : Int) (lv hv : Value) (it : Int) (n : Int) (h : Rd rb W rest more kd id lv hv it) :
    Calls Tryd.prog 48 #[.pointer (some ⟨rb, 0, none⟩), .int .i64 n] W fun e w' => e = .returned (.bool (Lra.known n)) ∧ w' = W.setCell ⟨rb, 3, none⟩ (.int .i64 n) := by
  have c3 := h.cells 3 _ rfl
  have f3 := row_frozen h.blk 3
  have C := fun w => hid (known36 n w)
  clear h
  go_enter Tryd.func48, Tryd.ntmps48
  go_wp2_with (go_at_call 36; refine (C _).out.mono ?_; clear C; rintro e W ⟨rfl, rfl⟩)
  go_ret
  exact ⟨rfl, rfl⟩

/-- What is left of a line behind the letter, where it is there. -/
def LetTo (rb : Nat) (W : World) (rest : ByteArray) (e : Ending) (w' : World) : Prop :=
  (Lettered rest ∧ e = .returned (.bool true) ∧ w' = W.setCell ⟨rb, 0, none⟩ (.string (rest.extract 2 rest.size))) ∨ (¬ Lettered rest ∧ e = .returned (.bool false) ∧ w' = W)

set_option maxRecDepth 100000 in
set_option maxHeartbeats 2000000 in
theorem takeLetter49 (rb : Nat) (W : World) (rest : ByteArray) (more : Bool) (kd id : Int) (lv hv : Value) (it : Int) (h : Rd rb W rest more kd id lv hv it) :
    Calls Tryd.prog 49 #[.pointer (some ⟨rb, 0, none⟩)] W fun e w' => LetTo rb W rest e w' := by
  have c0 := h.cells 0 _ rfl
  have f0 := row_frozen h.blk 0
  have HC := hid (cutPrefix65d rest W)
  clear h
  go_enter Tryd.func49, Tryd.ntmps49
  go_wp2_with (go_at_call 65; refine HC.out.mono ?_; clear HC; rintro e W ⟨(⟨h, rfl⟩ | ⟨h, rfl⟩), rfl⟩ <;> have HH := hid h <;> clear h)
  · go_ret
    exact .inl ⟨HH.out, rfl, rfl⟩
  · go_ret
    exact .inr ⟨HH.out, rfl, rfl⟩

/-- What a reader's next word is, and what is left. -/
def WordTo (rb : Nat) (W : World) (rest : ByteArray) (more : Bool) (e : Ending) (w' : World) : Prop :=
  (more = false ∧ e = .returned (.string ⟨#[]⟩) ∧ w' = W)
  ∨ (more = true ∧ ∃ (i q : Nat), i < rest.size ∧ Lib.indexByte rest.data.toList 32 = i ∧ e = .returned (.string (rest.extract 0 i)) ∧ w' = ((W.drewN q).setCell ⟨rb, 0, none⟩ (.string (rest.extract (i + 1) rest.size))).setCell ⟨rb, 1, none⟩ (.bool true))
  ∨ (more = true ∧ ∃ q : Nat, Lib.indexByte rest.data.toList 32 = -1 ∧ e = .returned (.string rest) ∧ w' = ((W.drewN q).setCell ⟨rb, 0, none⟩ (.string ⟨#[]⟩)).setCell ⟨rb, 1, none⟩ (.bool false))

set_option maxRecDepth 100000 in
set_option maxHeartbeats 2000000 in
theorem word64 (rb : Nat) (W : World) (rest : ByteArray) (more : Bool) (kd id : Int) (lv hv : Value) (it : Int) (h : Rd rb W rest more kd id lv hv it) (hS : (rest.size : Int) ≤ 1099511627776) :
    Calls Tryd.prog 64 #[.pointer (some ⟨rb, 0, none⟩)] W fun e w' => WordTo rb W rest more e w' := by
  have c0 := h.cells 0 _ rfl
  have c1 := h.cells 1 _ rfl
  cases more
  · clear h hS
    go_enter Tryd.func64, Tryd.ntmps64
    go_wp2
    go_ret
    exact .inl ⟨rfl, rfl, rfl⟩
  · have f0 := row_frozen h.blk 0
    have f1 := row_frozen h.blk 1
    have HC := hid (cut74 rest W hS)
    clear h hS
    go_enter Tryd.func64, Tryd.ntmps64
    go_wp2_with (go_at_call 74; refine HC.out.mono ?_; clear HC; rintro e W' ⟨(⟨i, hi, h, rfl⟩ | ⟨h, rfl⟩), ⟨q, rfl⟩⟩ <;> have HH := hid h <;> clear h)
    · go_ret
      exact .inr (.inl ⟨rfl, i, q, hi, HH.out, rfl, rfl⟩)
    · go_ret
      exact .inr (.inr ⟨rfl, q, HH.out, rfl, rfl⟩)
end Go.Proofs.YtdodfmgbjfhnpaaDoor
