/- The reader over bytes: one number, a row of numbers. -/
import Derived.Test.YtmgeoeajnpnadaaRdRows
namespace Go.Proofs.Ytmgeoeajnpnadaa
open Go.RowKit
set_option linter.unusedVariables false
set_option linter.unusedSimpArgs false

theorem Row.back {k : IntKind} {lo hi : Int} {w W : World} {b off : Nat} {xs : List Int} (h : Row k lo hi W (some ⟨b, off, none⟩) xs) (hb : Below w.heap.size w W) (hlt : b < w.heap.size) : Row k lo hi w (some ⟨b, off, none⟩) xs := by
  refine ⟨h.1, ?_⟩
  rcases h.2 with h0 | ⟨b', off', e, _, hc⟩
  · exact .inl h0
  · cases e
    refine .inr ⟨b, off, rfl, hlt, fun j hj => ?_⟩
    rw [← World.cell?_of_block (w := w) (w' := W) (a := ⟨b, off + j, none⟩) (hb.block b hlt)]
    exact hc j hj
/-- A reader over the bytes bs, which lie in the block b of an older world. -/
structure RB (w0 : World) (base rb : Nat) (W : World) (b : Nat) (bs : List Int) (kd id : Int) (ls hs : List Int) (it : Int) (lv hv : Value) : Prop where
  ex : ∃ off rc, RdO base rb W (some ⟨b, off, none⟩) bs.length rc kd id ls hs it lv hv ∧ bs.length ≤ rc ∧ rc ≤ 9223372036854775807 ∧ Bts w0 (some ⟨b, off, none⟩) bs
  bel : Below w0.heap.size w0 W
  ge : w0.heap.size ≤ rb
  lt : b < w0.heap.size
  sz : base ≤ W.heap.size
theorem RdO.drewN {base rb : Nat} {W : World} {ra : Option Addr} {rn rc : Nat} {kd id : Int} {ls hs : List Int} {it : Int} {lv hv : Value} (h : RdO base rb W ra rn rc kd id ls hs it lv hv) (q : Nat) : RdO base rb (W.drewN q) ra rn rc kd id ls hs it lv hv := ⟨h.rd.drewN q, h.lt, h.lo, h.ho⟩
theorem RdO.rests {base rb : Nat} {W : World} {ra : Option Addr} {rn rc : Nat} {kd id : Int} {ls hs : List Int} {it : Int} {lv hv : Value} (h : RdO base rb W ra rn rc kd id ls hs it lv hv) (a' : Option Addr) (n' c' : Nat) : RdO base rb (W.setCell ⟨rb, 0, none⟩ (.slice a' n' c')) a' n' c' kd id ls hs it lv hv := ⟨h.rd.rests a' n' c', h.lt, own_set h.lo h.lt _, own_set h.ho h.lt _⟩
theorem RdO.ids {base rb : Nat} {W : World} {ra : Option Addr} {rn rc : Nat} {kd id : Int} {ls hs : List Int} {it : Int} {lv hv : Value} (h : RdO base rb W ra rn rc kd id ls hs it lv hv) (n : Int) : RdO base rb (W.setCell ⟨rb, 2, none⟩ (.int .i64 n)) ra rn rc kd n ls hs it lv hv := ⟨h.rd.ids n, h.lt, own_set h.lo h.lt _, own_set h.ho h.lt _⟩
theorem RdO.kinds {base rb : Nat} {W : World} {ra : Option Addr} {rn rc : Nat} {kd id : Int} {ls hs : List Int} {it : Int} {lv hv : Value} (h : RdO base rb W ra rn rc kd id ls hs it lv hv) (n : Int) : RdO base rb (W.setCell ⟨rb, 1, none⟩ (.int .u8 n)) ra rn rc n id ls hs it lv hv := ⟨h.rd.kinds n, h.lt, own_set h.lo h.lt _, own_set h.ho h.lt _⟩
theorem RdO.under {base rb : Nat} {w0 W W' : World} {ra : Option Addr} {rn rc : Nat} {kd id : Int} {ls hs : List Int} {it : Int} {lv hv lv' hv' : Value} (h : RdO base rb W ra rn rc kd id ls hs it lv hv) (m : Mv rb W W' lv hv lv' hv') (hb : Below w0.heap.size w0 W) (hg : w0.heap.size ≤ rb) : Below w0.heap.size w0 W' :=
  hb.trans ⟨m.os, m.tape, m.output, m.size, fun k hk => m.block k (Nat.lt_of_lt_of_le hk hb.size) (by omega) (fun e => by have := (own_blk h.lo e).1; have := h.lt; omega) (fun e => by have := (own_blk h.ho e).1; have := h.lt; omega)⟩
section
variable {w0 : World} {base rb : Nat} {W W' : World} {b : Nat} {bs : List Int} {kd id kd' id' : Int} {ls hs ls' hs' : List Int} {it it' : Int} {lv hv lv' hv' : Value}
theorem RB.bel' (h : RB w0 base rb W b bs kd id ls hs it lv hv) (m : Mv rb W W' lv hv lv' hv') : Below w0.heap.size w0 W' := by
  obtain ⟨off, rc, hR, _⟩ := h.ex
  exact hR.under m h.bel h.ge
/-- The reader when it has moved. -/
theorem RB.move (h : RB w0 base rb W b bs kd id ls hs it lv hv) (m : Mv rb W W' lv hv lv' hv') (hR : ∀ ra rn rc, RdO base rb W ra rn rc kd id ls hs it lv hv → RdO base rb W' ra rn rc kd' id' ls' hs' it' lv' hv') : RB w0 base rb W' b bs kd' id' ls' hs' it' lv' hv' := by
  obtain ⟨off, rc, hR0, h1, h2, h3⟩ := h.ex
  exact ⟨⟨off, rc, hR _ _ _ hR0, h1, h2, h3⟩, h.bel' m, h.ge, h.lt, Nat.le_trans h.sz m.size⟩
end
/-- What reading a number does to the reader. -/
def NumB (w0 : World) (base rb : Nat) (W : World) (b : Nat) (bs : List Int) (kd id : Int) (ls hs : List Int) (it : Int) (lv hv : Value) (e : Ending) (w' : World) : Prop :=
  (Bin.numR bs = none ∧ (∃ n, e = .returned (.tuple #[.int .i64 n, .bool false])) ∧ Mv rb W w' lv hv lv hv) ∨
  (∃ n r, Bin.numR bs = some (n, r) ∧ e = .returned (.tuple #[.int .i64 n, .bool true]) ∧ RB w0 base rb w' b r kd id ls hs it lv hv ∧ Mv rb W w' lv hv lv hv)
theorem numB (w0 : World) (base rb : Nat) (W : World) (b : Nat) (bs : List Int) (kd id : Int) (ls hs : List Int) (it : Int) (lv hv : Value) (h : RB w0 base rb W b bs kd id ls hs it lv hv) :
    Calls Try.prog 58 #[.pointer (some ⟨rb, 0, none⟩)] W fun e w' => NumB w0 base rb W b bs kd id ls hs it lv hv e w' := by
  obtain ⟨off, rc, hR, h1, h2, h3⟩ := h.ex
  refine (number58 rb W b off bs.length rc bs kd id lv hv it hR.rd rfl h1 h2 (h3.below h.bel)).mono ?_
  rintro e w' (⟨hn, n, q, u, rfl, rfl | rfl⟩ | ⟨n, r, q, off', c', hn, rfl, rfl, g1, g2, g3⟩)
  · exact .inl ⟨hn, ⟨n, rfl⟩, Mv.drewN _ _ _ _ _⟩
  · exact .inl ⟨hn, ⟨n, rfl⟩, (Mv.drewN rb q W lv hv).trans (Mv.set rb 0 _ _ lv hv)⟩
  · have m := (Mv.drewN rb q W lv hv).trans (Mv.set rb 0 (W.drewN q) (.slice (some ⟨b, off', none⟩) r.length c') lv hv)
    exact .inr ⟨n, r, hn, rfl, ⟨⟨off', c', (hR.drewN q).rests _ _ _, g1, by omega, g3.back h.bel h.lt⟩, h.bel' m, h.ge, h.lt, Nat.le_trans h.sz m.size⟩, m⟩

/-- What reading one number does. -/
def OneB (chk : Int → Bool) (w0 : World) (base rb : Nat) (W : World) (b : Nat) (bs : List Int) (kd id : Int) (ls hs : List Int) (it : Int) (lv hv : Value) (e : Ending) (w' : World) : Prop :=
  (Bin.numR bs = none ∧ e = .returned (.bool false) ∧ Mv rb W w' lv hv lv hv) ∨
  (∃ n r, Bin.numR bs = some (n, r) ∧ e = .returned (.bool (chk n)) ∧ RB w0 base rb w' b r kd n ls hs it lv hv ∧ Mv rb W w' lv hv lv hv)

set_option maxRecDepth 100000 in
set_option maxHeartbeats 4000000 in
theorem one42_43 (w0 : World) (base rb : Nat) (W : World) (b : Nat) (bs : List Int) (kd id : Int) (ls hs : List Int) (it : Int) (lv hv : Value) (h : RB w0 base rb W b bs kd id ls hs it lv hv) :
    Calls Try.prog 42 #[.pointer (some ⟨rb, 0, none⟩), .func (.func 43) #[] #[]] W fun e w' => OneB Lra.added w0 base rb W b bs kd id ls hs it lv hv e w' := by
  have K := numB w0 base rb W b bs kd id ls hs it lv hv h
  cases hn : Bin.numR bs with
  | none =>
    have K58 := hid (K.mono (R' := fun e w' => ∃ n, e = .returned (.tuple #[.int .i64 n, .bool false]) ∧ Mv rb W w' lv hv lv hv) (by
      rintro e w' (⟨_, ⟨n, he⟩, m⟩ | ⟨n, r, h9, _⟩)
      · exact ⟨n, he, m⟩
      · rw [hn] at h9; cases h9))
    have HN := hid hn
    clear K h hn
    go_enter Try.func42, Try.ntmps42
    go_wp2_with (go_at_call 58; refine K58.out.mono ?_; clear K58; rintro e W1 ⟨n, rfl, m⟩; have HM := hid m; clear m)
    go_ret
    exact .inl ⟨HN.out, rfl, HM.out⟩
  | some p =>
    obtain ⟨n, r⟩ := p
    have K58 := hid (K.mono (R' := fun e w' => e = .returned (.tuple #[.int .i64 n, .bool true]) ∧ RB w0 base rb w' b r kd id ls hs it lv hv ∧ Mv rb W w' lv hv lv hv) (by
      rintro e w' (⟨h9, _⟩ | ⟨n', r', h9, he, hR, m⟩)
      · rw [hn] at h9; cases h9
      · rw [hn] at h9; cases h9; exact ⟨he, hR, m⟩))
    have C43 := hid (fun (w : World) (hR : RB w0 base rb w b r kd id ls hs it lv hv) => (show Calls Try.prog 43 #[.pointer (some ⟨rb, 0, none⟩), .int .i64 n] w fun e w' => e = .returned (.bool (Lra.added n)) ∧ w' = w.setCell ⟨rb, 2, none⟩ (.int .i64 n) by
      obtain ⟨off, rc, hR0, _⟩ := hR.ex
      exact takeAdded43 rb w _ _ _ kd id lv hv it n hR0.rd))
    have HN := hid hn
    clear K h hn
    go_enter Try.func42, Try.ntmps42
    go_wp2_with (first | (go_at_call 58; refine K58.out.mono ?_; clear K58; rintro e W1 ⟨rfl, hR⟩; have HR := hid hR; clear hR) | (go_at_call 43; refine (C43.out _ HR.out.1).mono ?_; clear C43; rintro e W3 ⟨rfl, hw⟩; have HW := hid hw; clear hw))
    go_ret
    have m : Mv rb W1 W3 lv hv lv hv := by rw [HW.out]; exact Mv.set rb 2 _ _ lv hv
    exact .inr ⟨n, r, HN.out, rfl, HR.out.1.move m (fun ra rn rc q => by rw [HW.out]; exact q.ids n), HR.out.2.trans m⟩
set_option maxRecDepth 100000 in
set_option maxHeartbeats 4000000 in
theorem one42_47 (w0 : World) (base rb : Nat) (W : World) (b : Nat) (bs : List Int) (kd id : Int) (ls hs : List Int) (it : Int) (lv hv : Value) (h : RB w0 base rb W b bs kd id ls hs it lv hv) :
    Calls Try.prog 42 #[.pointer (some ⟨rb, 0, none⟩), .func (.func 47) #[] #[]] W fun e w' => OneB Lra.known w0 base rb W b bs kd id ls hs it lv hv e w' := by
  have K := numB w0 base rb W b bs kd id ls hs it lv hv h
  cases hn : Bin.numR bs with
  | none =>
    have K58 := hid (K.mono (R' := fun e w' => ∃ n, e = .returned (.tuple #[.int .i64 n, .bool false]) ∧ Mv rb W w' lv hv lv hv) (by
      rintro e w' (⟨_, ⟨n, he⟩, m⟩ | ⟨n, r, h9, _⟩)
      · exact ⟨n, he, m⟩
      · rw [hn] at h9; cases h9))
    have HN := hid hn
    clear K h hn
    go_enter Try.func42, Try.ntmps42
    go_wp2_with (go_at_call 58; refine K58.out.mono ?_; clear K58; rintro e W1 ⟨n, rfl, m⟩; have HM := hid m; clear m)
    go_ret
    exact .inl ⟨HN.out, rfl, HM.out⟩
  | some p =>
    obtain ⟨n, r⟩ := p
    have K58 := hid (K.mono (R' := fun e w' => e = .returned (.tuple #[.int .i64 n, .bool true]) ∧ RB w0 base rb w' b r kd id ls hs it lv hv ∧ Mv rb W w' lv hv lv hv) (by
      rintro e w' (⟨h9, _⟩ | ⟨n', r', h9, he, hR, m⟩)
      · rw [hn] at h9; cases h9
      · rw [hn] at h9; cases h9; exact ⟨he, hR, m⟩))
    have C47 := hid (fun (w : World) (hR : RB w0 base rb w b r kd id ls hs it lv hv) => (show Calls Try.prog 47 #[.pointer (some ⟨rb, 0, none⟩), .int .i64 n] w fun e w' => e = .returned (.bool (Lra.known n)) ∧ w' = w.setCell ⟨rb, 2, none⟩ (.int .i64 n) by
      obtain ⟨off, rc, hR0, _⟩ := hR.ex
      exact takeKnown47 rb w _ _ _ kd id lv hv it n hR0.rd))
    have HN := hid hn
    clear K h hn
    go_enter Try.func42, Try.ntmps42
    go_wp2_with (first | (go_at_call 58; refine K58.out.mono ?_; clear K58; rintro e W1 ⟨rfl, hR⟩; have HR := hid hR; clear hR) | (go_at_call 47; refine (C47.out _ HR.out.1).mono ?_; clear C47; rintro e W3 ⟨rfl, hw⟩; have HW := hid hw; clear hw))
    go_ret
    have m : Mv rb W1 W3 lv hv lv hv := by rw [HW.out]; exact Mv.set rb 2 _ _ lv hv
    exact .inr ⟨n, r, HN.out, rfl, HR.out.1.move m (fun ra rn rc q => by rw [HW.out]; exact q.ids n), HR.out.2.trans m⟩

/-- How much is left to read. -/
def leftW (rb : Nat) (w : World) : Nat := match w.cell? ⟨rb, 0, none⟩ with
  | some (.slice _ n _) => n
  | _ => 0
theorem RB.left {w0 : World} {base rb : Nat} {W : World} {b : Nat} {bs : List Int} {kd id : Int} {ls hs : List Int} {it : Int} {lv hv : Value} (h : RB w0 base rb W b bs kd id ls hs it lv hv) : leftW rb W = bs.length := by
  obtain ⟨off, rc, hR, _⟩ := h.ex
  unfold leftW
  rw [show W.cell? ⟨rb, 0, none⟩ = some (.slice (some ⟨b, off, none⟩) bs.length rc) from hR.rd.cells 0 _ rfl]
theorem RB.byt {w0 : World} {base rb : Nat} {W : World} {b : Nat} {bs : List Int} {kd id : Int} {ls hs : List Int} {it : Int} {lv hv : Value} (h : RB w0 base rb W b bs kd id ls hs it lv hv) : Bin.Byt bs := by
  obtain ⟨off, rc, hR, _, _, h3⟩ := h.ex
  exact h3.byt
/-- What a row of hints does to the reader. -/
def HintsB (chk : Int → Bool) (w0 : World) (base rb : Nat) (W : World) (b : Nat) (bs : List Int) (kd id : Int) (ls : List Int) (it : Nat) (lv hv : Value) (e : Ending) (w' : World) : Prop :=
  (Bin.rowF chk bs = none ∧ e = .returned (.bool false) ∧ ∃ lv' hv', Mv rb W w' lv hv lv' hv')
  ∨ (∃ xs r hv', Bin.rowF chk bs = some (xs, r) ∧ e = .returned (.bool true) ∧ RB w0 base rb w' b r kd id ls xs ((it + xs.length : Nat) : Int) lv hv' ∧ Mv rb W w' lv hv lv hv')
/-- What a row of literals does to the reader. -/
def LitsB (chk : Int → Bool) (w0 : World) (base rb : Nat) (W : World) (b : Nat) (bs : List Int) (kd id : Int) (hs : List Int) (it : Nat) (lv hv : Value) (e : Ending) (w' : World) : Prop :=
  (Bin.rowF chk bs = none ∧ e = .returned (.bool false) ∧ ∃ lv' hv', Mv rb W w' lv hv lv' hv')
  ∨ (∃ xs r lv', Bin.rowF chk bs = some (xs, r) ∧ e = .returned (.bool true) ∧ RB w0 base rb w' b r kd id xs hs ((it + xs.length : Nat) : Int) lv' hv ∧ Mv rb W w' lv hv lv' hv)
/-- What is left of a row when acc of it is read. -/
def restOf (chk : Int → Bool) (acc : List Int) (bs : List Int) : Option (List Int × List Int) := match Bin.rowF chk bs with
  | none => none
  | some (l, r) => some (acc ++ l, r)
theorem restOf_nil (chk : Int → Bool) (bs : List Int) : restOf chk [] bs = Bin.rowF chk bs := by
  unfold restOf
  cases Bin.rowF chk bs with
  | none => rfl
  | some p => rfl
theorem restOf_none {chk : Int → Bool} {acc bs : List Int} (hb : Bin.Byt bs) (h : Bin.numR bs = none) : restOf chk acc bs = none := by
  unfold restOf; rw [Bin.rowF_step hb, h]
theorem restOf_end {chk : Int → Bool} {acc bs r : List Int} (hb : Bin.Byt bs) (h : Bin.numR bs = some (0, r)) : restOf chk acc bs = some (acc, r) := by
  unfold restOf; rw [Bin.rowF_step hb, h]; simp
theorem restOf_bad {chk : Int → Bool} {acc bs r : List Int} {n : Int} (hb : Bin.Byt bs) (h : Bin.numR bs = some (n, r)) (h0 : n ≠ 0) (hc : chk n = false) : restOf chk acc bs = none := by
  unfold restOf; rw [Bin.rowF_step hb, h]; simp [h0, hc]
theorem restOf_more {chk : Int → Bool} {acc bs r : List Int} {n : Int} (hb : Bin.Byt bs) (h : Bin.numR bs = some (n, r)) (h0 : n ≠ 0) (hc : chk n = true) : restOf chk acc bs = restOf chk (acc ++ [n]) r := by
  unfold restOf
  rw [Bin.rowF_step hb, h]
  simp only [h0, hc, if_false, if_true]
  cases Bin.rowF chk r with
  | none => rfl
  | some p => obtain ⟨l, r'⟩ := p; simp
theorem numR_less {bs r : List Int} {n : Int} (hb : Bin.Byt bs) (h : Bin.numR bs = some (n, r)) : r.length < bs.length := by
  obtain ⟨e, _⟩ := Bin.numR_back hb h
  have := Bin.num_pos n
  have h2 := congrArg List.length e
  rw [List.length_append] at h2
  omega

set_option maxRecDepth 100000 in
set_option maxHeartbeats 8000000 in
theorem row44_46 (w0 : World) (base rb : Nat) (W : World) (b : Nat) (bs : List Int) (kd id : Int) (ls : List Int) (it : Nat) (lv hv : Value) (h : RB w0 base rb W b bs kd id ls [] it lv hv) (hz : it + bs.length ≤ 16777216) :
    Calls Try.prog 44 #[.pointer (some ⟨rb, 0, none⟩), .func (.func 46) #[] #[]] W fun e w' => HintsB Lra.hint w0 base rb W b bs kd id ls it lv hv e w' := by
  have HR := hid h
  have HZ := hid hz
  clear h hz
  go_enter Try.func44, Try.ntmps44
  go_wp2
  go_loopw [] (fun wr => ∃ (rest acc : List Int) (hv' : Value), Hid (Bin.rowF Lra.hint bs = restOf Lra.hint acc rest) ∧ Hid (RB w0 base rb wr b rest kd id ls acc ((it + acc.length : Nat) : Int) lv hv') ∧ Hid (Mv rb W wr lv hv lv hv') ∧ Hid (it + acc.length + rest.length ≤ 16777216)) (fun wr => leftW rb wr)
  case atStart => exact ⟨bs, [], hv, hid (restOf_nil _ _).symm, hid (by simpa using HR.out), hid (Mv.refl _ _ _ _), hid (by simpa using HZ.out)⟩
  case round =>
    obtain ⟨rest, acc, hv', HL, HQ, HM, HBD⟩ := hrel
    have K := numB w0 base rb wr b rest kd id ls acc _ lv hv' HQ.out
    have HFW := hid HQ.out.left
    have hbt := HQ.out.byt
    cases hn : Bin.numR rest with
    | none =>
      have K58 := hid (K.mono (R' := fun e w' => ∃ n, e = .returned (.tuple #[.int .i64 n, .bool false]) ∧ Mv rb wr w' lv hv' lv hv') (by
        rintro e w' (⟨_, ⟨n, he⟩, m⟩ | ⟨n, r, h9, _⟩)
        · exact ⟨n, he, m⟩
        · rw [hn] at h9; cases h9))
      have HN := hid (show Bin.rowF Lra.hint bs = none by rw [HL.out, restOf_none hbt hn])
      clear K hn hbt
      go_wp2_with (go_at_call 58; refine K58.out.mono ?_; clear K58; rintro e W1 ⟨n, rfl, m⟩; have HM1 := hid m; clear m)
      go_ret
      exact .inl ⟨HN.out, rfl, _, _, HM.out.trans HM1.out⟩
    | some p =>
      obtain ⟨n, r⟩ := p
      have K58 := hid (K.mono (R' := fun e w' => e = .returned (.tuple #[.int .i64 n, .bool true]) ∧ RB w0 base rb w' b r kd id ls acc ((it + acc.length : Nat) : Int) lv hv' ∧ Mv rb wr w' lv hv' lv hv') (by
        rintro e w' (⟨h9, _⟩ | ⟨n', r', h9, he, hR, m⟩)
        · rw [hn] at h9; cases h9
        · rw [hn] at h9; cases h9; exact ⟨he, hR, m⟩))
      have HLS := hid (numR_less hbt hn)
      by_cases h0 : n = 0
      · subst h0
        have HN := hid (show Bin.rowF Lra.hint bs = some (acc, r) by rw [HL.out, restOf_end hbt hn])
        clear K hn hbt
        go_wp2_with (go_at_call 58; refine K58.out.mono ?_; clear K58; rintro e W1 ⟨rfl, hR⟩; have HR1 := hid hR; clear hR)
        go_ret
        exact .inr ⟨acc, r, _, HN.out, rfl, HR1.out.1, HM.out.trans HR1.out.2⟩
      · have h0' : (n == 0) = false := by simpa using h0
        have KT := fun (w : World) (hR : RB w0 base rb w b r kd id ls acc ((it + acc.length : Nat) : Int) lv hv') => (show Calls Try.prog 46 #[.pointer (some ⟨rb, 0, none⟩), .int .i64 n] w fun e w' => e = .returned (.bool (Lra.hint n)) ∧ ((Lra.hint n = false ∧ w' = w) ∨ (Lra.hint n = true ∧ ∃ v2, RB w0 base rb w' b r kd id ls (acc ++ [n]) ((it + (acc ++ [n]).length : Nat) : Int) lv v2 ∧ Mv rb w w' lv hv' lv v2)) by
          obtain ⟨off, rc, hR0, q1, q2, q3⟩ := hR.ex
          refine (takeHint46 base rb w _ _ _ kd id ls acc _ lv hv' n hR0 hR.sz (by have := HBD.out; omega) (by omega) (by have := HBD.out; omega)).mono ?_
          rintro e w' ⟨he, ⟨f1, f2⟩ | ⟨f1, v2, f2, f3⟩⟩
          · exact ⟨he, .inl ⟨f1, f2⟩⟩
          · refine ⟨he, .inr ⟨f1, v2, ?_, f3⟩⟩
            rw [if_pos (by have h1 := HBD.out; have h2 := HLS.out; omega), show ((it + acc.length : Nat) : Int) + 1 = ((it + (acc ++ [n]).length : Nat) : Int) by simp; omega] at f2
            exact ⟨⟨off, rc, f2, q1, q2, q3⟩, hR.bel' f3, hR.ge, hR.lt, Nat.le_trans hR.sz f3.size⟩)
        cases hc : Lra.hint n
        · have HN := hid (show Bin.rowF Lra.hint bs = none by rw [HL.out, restOf_bad hbt hn h0 hc])
          have L : ∀ w, RB w0 base rb w b r kd id ls acc ((it + acc.length : Nat) : Int) lv hv' → Hid (Calls Try.prog 46 #[.pointer (some ⟨rb, 0, none⟩), .int .i64 n] w fun e w' => e = .returned (.bool false) ∧ w' = w) := fun w h1 => hid ((KT w h1).mono (by
            rintro e w' ⟨rfl, h | h⟩
            · rw [hc]; exact ⟨rfl, h.2⟩
            · rw [hc] at h; cases h.1))
          clear K hn hbt KT hc h0
          go_wp2_with (first | (go_at_call 58; refine K58.out.mono ?_; clear K58; rintro e W1 ⟨rfl, hR⟩; have HR1 := hid hR; clear hR) | (go_at_call 46; refine (L _ HR1.out.1).out.mono ?_; clear L; rintro e W3 ⟨rfl, rfl⟩))
          go_ret
          exact .inl ⟨HN.out, rfl, _, _, HM.out.trans HR1.out.2⟩
        · have HN := hid (show Bin.rowF Lra.hint bs = restOf Lra.hint (acc ++ [n]) r by rw [HL.out, restOf_more hbt hn h0 hc])
          have L : ∀ w, RB w0 base rb w b r kd id ls acc ((it + acc.length : Nat) : Int) lv hv' → Hid (Calls Try.prog 46 #[.pointer (some ⟨rb, 0, none⟩), .int .i64 n] w fun e w' => e = .returned (.bool true) ∧ ∃ v2, RB w0 base rb w' b r kd id ls (acc ++ [n]) ((it + (acc ++ [n]).length : Nat) : Int) lv v2 ∧ Mv rb w w' lv hv' lv v2) := fun w h1 => hid ((KT w h1).mono (by
            rintro e w' ⟨rfl, h | h⟩
            · rw [hc] at h; cases h.1
            · rw [hc]; exact ⟨rfl, h.2⟩))
          clear K hn hbt KT hc h0
          go_wp2_with (first | (go_at_call 58; refine K58.out.mono ?_; clear K58; rintro e W1 ⟨rfl, hR⟩; have HR1 := hid hR; clear hR) | (go_at_call 46; refine (L _ HR1.out.1).out.mono ?_; clear L; rintro e W3 ⟨rfl, v2, hR⟩; have HR2 := hid hR; clear hR))
          refine ⟨⟨r, acc ++ [n], v2, HN, hid HR2.out.1, hid (HM.out.trans (HR1.out.2.trans HR2.out.2)), hid (by have h1 := HLS.out; have h2 := HBD.out; simp; omega)⟩, ?_⟩
          rw [HR2.out.1.left, HFW.out]
          exact HLS.out
set_option maxRecDepth 100000 in
set_option maxHeartbeats 8000000 in
theorem row44_48 (w0 : World) (base rb : Nat) (W : World) (b : Nat) (bs : List Int) (kd id : Int) (ls : List Int) (it : Nat) (lv hv : Value) (h : RB w0 base rb W b bs kd id ls [] it lv hv) (hz : it + bs.length ≤ 16777216) :
    Calls Try.prog 44 #[.pointer (some ⟨rb, 0, none⟩), .func (.func 48) #[] #[]] W fun e w' => HintsB Lra.added w0 base rb W b bs kd id ls it lv hv e w' := by
  have HR := hid h
  have HZ := hid hz
  clear h hz
  go_enter Try.func44, Try.ntmps44
  go_wp2
  go_loopw [] (fun wr => ∃ (rest acc : List Int) (hv' : Value), Hid (Bin.rowF Lra.added bs = restOf Lra.added acc rest) ∧ Hid (RB w0 base rb wr b rest kd id ls acc ((it + acc.length : Nat) : Int) lv hv') ∧ Hid (Mv rb W wr lv hv lv hv') ∧ Hid (it + acc.length + rest.length ≤ 16777216)) (fun wr => leftW rb wr)
  case atStart => exact ⟨bs, [], hv, hid (restOf_nil _ _).symm, hid (by simpa using HR.out), hid (Mv.refl _ _ _ _), hid (by simpa using HZ.out)⟩
  case round =>
    obtain ⟨rest, acc, hv', HL, HQ, HM, HBD⟩ := hrel
    have K := numB w0 base rb wr b rest kd id ls acc _ lv hv' HQ.out
    have HFW := hid HQ.out.left
    have hbt := HQ.out.byt
    cases hn : Bin.numR rest with
    | none =>
      have K58 := hid (K.mono (R' := fun e w' => ∃ n, e = .returned (.tuple #[.int .i64 n, .bool false]) ∧ Mv rb wr w' lv hv' lv hv') (by
        rintro e w' (⟨_, ⟨n, he⟩, m⟩ | ⟨n, r, h9, _⟩)
        · exact ⟨n, he, m⟩
        · rw [hn] at h9; cases h9))
      have HN := hid (show Bin.rowF Lra.added bs = none by rw [HL.out, restOf_none hbt hn])
      clear K hn hbt
      go_wp2_with (go_at_call 58; refine K58.out.mono ?_; clear K58; rintro e W1 ⟨n, rfl, m⟩; have HM1 := hid m; clear m)
      go_ret
      exact .inl ⟨HN.out, rfl, _, _, HM.out.trans HM1.out⟩
    | some p =>
      obtain ⟨n, r⟩ := p
      have K58 := hid (K.mono (R' := fun e w' => e = .returned (.tuple #[.int .i64 n, .bool true]) ∧ RB w0 base rb w' b r kd id ls acc ((it + acc.length : Nat) : Int) lv hv' ∧ Mv rb wr w' lv hv' lv hv') (by
        rintro e w' (⟨h9, _⟩ | ⟨n', r', h9, he, hR, m⟩)
        · rw [hn] at h9; cases h9
        · rw [hn] at h9; cases h9; exact ⟨he, hR, m⟩))
      have HLS := hid (numR_less hbt hn)
      by_cases h0 : n = 0
      · subst h0
        have HN := hid (show Bin.rowF Lra.added bs = some (acc, r) by rw [HL.out, restOf_end hbt hn])
        clear K hn hbt
        go_wp2_with (go_at_call 58; refine K58.out.mono ?_; clear K58; rintro e W1 ⟨rfl, hR⟩; have HR1 := hid hR; clear hR)
        go_ret
        exact .inr ⟨acc, r, _, HN.out, rfl, HR1.out.1, HM.out.trans HR1.out.2⟩
      · have h0' : (n == 0) = false := by simpa using h0
        have KT := fun (w : World) (hR : RB w0 base rb w b r kd id ls acc ((it + acc.length : Nat) : Int) lv hv') => (show Calls Try.prog 48 #[.pointer (some ⟨rb, 0, none⟩), .int .i64 n] w fun e w' => e = .returned (.bool (Lra.added n)) ∧ ((Lra.added n = false ∧ w' = w) ∨ (Lra.added n = true ∧ ∃ v2, RB w0 base rb w' b r kd id ls (acc ++ [n]) ((it + (acc ++ [n]).length : Nat) : Int) lv v2 ∧ Mv rb w w' lv hv' lv v2)) by
          obtain ⟨off, rc, hR0, q1, q2, q3⟩ := hR.ex
          refine (takeGone48 base rb w _ _ _ kd id ls acc _ lv hv' n hR0 hR.sz (by have := HBD.out; omega) (by omega) (by have := HBD.out; omega)).mono ?_
          rintro e w' ⟨he, ⟨f1, f2⟩ | ⟨f1, v2, f2, f3⟩⟩
          · exact ⟨he, .inl ⟨f1, f2⟩⟩
          · refine ⟨he, .inr ⟨f1, v2, ?_, f3⟩⟩
            rw [if_pos (by have h1 := HBD.out; have h2 := HLS.out; omega), show ((it + acc.length : Nat) : Int) + 1 = ((it + (acc ++ [n]).length : Nat) : Int) by simp; omega] at f2
            exact ⟨⟨off, rc, f2, q1, q2, q3⟩, hR.bel' f3, hR.ge, hR.lt, Nat.le_trans hR.sz f3.size⟩)
        cases hc : Lra.added n
        · have HN := hid (show Bin.rowF Lra.added bs = none by rw [HL.out, restOf_bad hbt hn h0 hc])
          have L : ∀ w, RB w0 base rb w b r kd id ls acc ((it + acc.length : Nat) : Int) lv hv' → Hid (Calls Try.prog 48 #[.pointer (some ⟨rb, 0, none⟩), .int .i64 n] w fun e w' => e = .returned (.bool false) ∧ w' = w) := fun w h1 => hid ((KT w h1).mono (by
            rintro e w' ⟨rfl, h | h⟩
            · rw [hc]; exact ⟨rfl, h.2⟩
            · rw [hc] at h; cases h.1))
          clear K hn hbt KT hc h0
          go_wp2_with (first | (go_at_call 58; refine K58.out.mono ?_; clear K58; rintro e W1 ⟨rfl, hR⟩; have HR1 := hid hR; clear hR) | (go_at_call 48; refine (L _ HR1.out.1).out.mono ?_; clear L; rintro e W3 ⟨rfl, rfl⟩))
          go_ret
          exact .inl ⟨HN.out, rfl, _, _, HM.out.trans HR1.out.2⟩
        · have HN := hid (show Bin.rowF Lra.added bs = restOf Lra.added (acc ++ [n]) r by rw [HL.out, restOf_more hbt hn h0 hc])
          have L : ∀ w, RB w0 base rb w b r kd id ls acc ((it + acc.length : Nat) : Int) lv hv' → Hid (Calls Try.prog 48 #[.pointer (some ⟨rb, 0, none⟩), .int .i64 n] w fun e w' => e = .returned (.bool true) ∧ ∃ v2, RB w0 base rb w' b r kd id ls (acc ++ [n]) ((it + (acc ++ [n]).length : Nat) : Int) lv v2 ∧ Mv rb w w' lv hv' lv v2) := fun w h1 => hid ((KT w h1).mono (by
            rintro e w' ⟨rfl, h | h⟩
            · rw [hc] at h; cases h.1
            · rw [hc]; exact ⟨rfl, h.2⟩))
          clear K hn hbt KT hc h0
          go_wp2_with (first | (go_at_call 58; refine K58.out.mono ?_; clear K58; rintro e W1 ⟨rfl, hR⟩; have HR1 := hid hR; clear hR) | (go_at_call 48; refine (L _ HR1.out.1).out.mono ?_; clear L; rintro e W3 ⟨rfl, v2, hR⟩; have HR2 := hid hR; clear hR))
          refine ⟨⟨r, acc ++ [n], v2, HN, hid HR2.out.1, hid (HM.out.trans (HR1.out.2.trans HR2.out.2)), hid (by have h1 := HLS.out; have h2 := HBD.out; simp; omega)⟩, ?_⟩
          rw [HR2.out.1.left, HFW.out]
          exact HLS.out
set_option maxRecDepth 100000 in
set_option maxHeartbeats 8000000 in
theorem row44_45 (w0 : World) (base rb : Nat) (W : World) (b : Nat) (bs : List Int) (kd id : Int) (hs : List Int) (it : Nat) (lv hv : Value) (h : RB w0 base rb W b bs kd id [] hs it lv hv) (hz : it + bs.length ≤ 16777216) :
    Calls Try.prog 44 #[.pointer (some ⟨rb, 0, none⟩), .func (.func 45) #[] #[]] W fun e w' => LitsB Lra.literal w0 base rb W b bs kd id hs it lv hv e w' := by
  have HR := hid h
  have HZ := hid hz
  clear h hz
  go_enter Try.func44, Try.ntmps44
  go_wp2
  go_loopw [] (fun wr => ∃ (rest acc : List Int) (lv' : Value), Hid (Bin.rowF Lra.literal bs = restOf Lra.literal acc rest) ∧ Hid (RB w0 base rb wr b rest kd id acc hs ((it + acc.length : Nat) : Int) lv' hv) ∧ Hid (Mv rb W wr lv hv lv' hv) ∧ Hid (it + acc.length + rest.length ≤ 16777216)) (fun wr => leftW rb wr)
  case atStart => exact ⟨bs, [], lv, hid (restOf_nil _ _).symm, hid (by simpa using HR.out), hid (Mv.refl _ _ _ _), hid (by simpa using HZ.out)⟩
  case round =>
    obtain ⟨rest, acc, lv', HL, HQ, HM, HBD⟩ := hrel
    have K := numB w0 base rb wr b rest kd id acc hs _ lv' hv HQ.out
    have HFW := hid HQ.out.left
    have hbt := HQ.out.byt
    cases hn : Bin.numR rest with
    | none =>
      have K58 := hid (K.mono (R' := fun e w' => ∃ n, e = .returned (.tuple #[.int .i64 n, .bool false]) ∧ Mv rb wr w' lv' hv lv' hv) (by
        rintro e w' (⟨_, ⟨n, he⟩, m⟩ | ⟨n, r, h9, _⟩)
        · exact ⟨n, he, m⟩
        · rw [hn] at h9; cases h9))
      have HN := hid (show Bin.rowF Lra.literal bs = none by rw [HL.out, restOf_none hbt hn])
      clear K hn hbt
      go_wp2_with (go_at_call 58; refine K58.out.mono ?_; clear K58; rintro e W1 ⟨n, rfl, m⟩; have HM1 := hid m; clear m)
      go_ret
      exact .inl ⟨HN.out, rfl, _, _, HM.out.trans HM1.out⟩
    | some p =>
      obtain ⟨n, r⟩ := p
      have K58 := hid (K.mono (R' := fun e w' => e = .returned (.tuple #[.int .i64 n, .bool true]) ∧ RB w0 base rb w' b r kd id acc hs ((it + acc.length : Nat) : Int) lv' hv ∧ Mv rb wr w' lv' hv lv' hv) (by
        rintro e w' (⟨h9, _⟩ | ⟨n', r', h9, he, hR, m⟩)
        · rw [hn] at h9; cases h9
        · rw [hn] at h9; cases h9; exact ⟨he, hR, m⟩))
      have HLS := hid (numR_less hbt hn)
      by_cases h0 : n = 0
      · subst h0
        have HN := hid (show Bin.rowF Lra.literal bs = some (acc, r) by rw [HL.out, restOf_end hbt hn])
        clear K hn hbt
        go_wp2_with (go_at_call 58; refine K58.out.mono ?_; clear K58; rintro e W1 ⟨rfl, hR⟩; have HR1 := hid hR; clear hR)
        go_ret
        exact .inr ⟨acc, r, _, HN.out, rfl, HR1.out.1, HM.out.trans HR1.out.2⟩
      · have h0' : (n == 0) = false := by simpa using h0
        have KT := fun (w : World) (hR : RB w0 base rb w b r kd id acc hs ((it + acc.length : Nat) : Int) lv' hv) => (show Calls Try.prog 45 #[.pointer (some ⟨rb, 0, none⟩), .int .i64 n] w fun e w' => e = .returned (.bool (Lra.literal n)) ∧ ((Lra.literal n = false ∧ w' = w) ∨ (Lra.literal n = true ∧ ∃ v2, RB w0 base rb w' b r kd id (acc ++ [n]) hs ((it + (acc ++ [n]).length : Nat) : Int) v2 hv ∧ Mv rb w w' lv' hv v2 hv)) by
          obtain ⟨off, rc, hR0, q1, q2, q3⟩ := hR.ex
          refine (takeLit45 base rb w _ _ _ kd id acc hs _ lv' hv n hR0 hR.sz (by have := HBD.out; omega) (by omega) (by have := HBD.out; omega)).mono ?_
          rintro e w' ⟨he, ⟨f1, f2⟩ | ⟨f1, v2, f2, f3⟩⟩
          · exact ⟨he, .inl ⟨f1, f2⟩⟩
          · refine ⟨he, .inr ⟨f1, v2, ?_, f3⟩⟩
            rw [if_pos (by have h1 := HBD.out; have h2 := HLS.out; omega), show ((it + acc.length : Nat) : Int) + 1 = ((it + (acc ++ [n]).length : Nat) : Int) by simp; omega] at f2
            exact ⟨⟨off, rc, f2, q1, q2, q3⟩, hR.bel' f3, hR.ge, hR.lt, Nat.le_trans hR.sz f3.size⟩)
        cases hc : Lra.literal n
        · have HN := hid (show Bin.rowF Lra.literal bs = none by rw [HL.out, restOf_bad hbt hn h0 hc])
          have L : ∀ w, RB w0 base rb w b r kd id acc hs ((it + acc.length : Nat) : Int) lv' hv → Hid (Calls Try.prog 45 #[.pointer (some ⟨rb, 0, none⟩), .int .i64 n] w fun e w' => e = .returned (.bool false) ∧ w' = w) := fun w h1 => hid ((KT w h1).mono (by
            rintro e w' ⟨rfl, h | h⟩
            · rw [hc]; exact ⟨rfl, h.2⟩
            · rw [hc] at h; cases h.1))
          clear K hn hbt KT hc h0
          go_wp2_with (first | (go_at_call 58; refine K58.out.mono ?_; clear K58; rintro e W1 ⟨rfl, hR⟩; have HR1 := hid hR; clear hR) | (go_at_call 45; refine (L _ HR1.out.1).out.mono ?_; clear L; rintro e W3 ⟨rfl, rfl⟩))
          go_ret
          exact .inl ⟨HN.out, rfl, _, _, HM.out.trans HR1.out.2⟩
        · have HN := hid (show Bin.rowF Lra.literal bs = restOf Lra.literal (acc ++ [n]) r by rw [HL.out, restOf_more hbt hn h0 hc])
          have L : ∀ w, RB w0 base rb w b r kd id acc hs ((it + acc.length : Nat) : Int) lv' hv → Hid (Calls Try.prog 45 #[.pointer (some ⟨rb, 0, none⟩), .int .i64 n] w fun e w' => e = .returned (.bool true) ∧ ∃ v2, RB w0 base rb w' b r kd id (acc ++ [n]) hs ((it + (acc ++ [n]).length : Nat) : Int) v2 hv ∧ Mv rb w w' lv' hv v2 hv) := fun w h1 => hid ((KT w h1).mono (by
            rintro e w' ⟨rfl, h | h⟩
            · rw [hc] at h; cases h.1
            · rw [hc]; exact ⟨rfl, h.2⟩))
          clear K hn hbt KT hc h0
          go_wp2_with (first | (go_at_call 58; refine K58.out.mono ?_; clear K58; rintro e W1 ⟨rfl, hR⟩; have HR1 := hid hR; clear hR) | (go_at_call 45; refine (L _ HR1.out.1).out.mono ?_; clear L; rintro e W3 ⟨rfl, v2, hR⟩; have HR2 := hid hR; clear hR))
          refine ⟨⟨r, acc ++ [n], v2, HN, hid HR2.out.1, hid (HM.out.trans (HR1.out.2.trans HR2.out.2)), hid (by have h1 := HLS.out; have h2 := HBD.out; simp; omega)⟩, ?_⟩
          rw [HR2.out.1.left, HFW.out]
          exact HLS.out
end Go.Proofs.Ytmgeoeajnpnadaa
