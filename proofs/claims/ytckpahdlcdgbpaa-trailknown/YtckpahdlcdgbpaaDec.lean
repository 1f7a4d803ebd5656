/- Decide, Assign. -/
import Derived.Test.YtckpahdlcdgbpaaPt
namespace Go.Proofs.Ytckpahdlcdgbpaa
open Go.RowKit Go.Maps
set_option linter.unusedVariables false
set_option maxRecDepth 100000

/-- What put leaves. -/
def PutOut (Q : Nat → Prop) (tb gv : Nat) (bv : Value) (n : Nat) (f : Nat → Trl.K) (R : List Trl.E) (B : List Nat) (h : Nat) (W w' : World) : Prop := ∃ lv', Tr Q tb gv lv' bv n f R B h w' ∧ Fr pA Q W w'
set_option maxHeartbeats 4000000 in
theorem put44 {Q : Nat → Prop} {tb gv : Nat} {lv bv : Value} {n : Nat} {f : Nat → Trl.K} {R : List Trl.E} {B : List Nat} {h : Nat} {W : World} (H : Tr Q tb gv lv bv n f R B h W) (hn : n ≤ 1048576) (hR : R.length ≤ 1048576) (l r : Int) (hl : I32 l) (v : Nat) (hv : Trl.vr l = (v : Int) + 1) (hvn : v < n) :
    Calls Try.prog 44 #[.pointer (some ⟨tb, 0, none⟩), .int .i32 l, .int .i64 r] W fun e w' => e = .returned (.tuple #[]) ∧ PutOut Q tb gv bv n (fun u => if u = v then ⟨l, B.length, r, R.length⟩ else f u) (R ++ [⟨l, B.length, r⟩]) B h W w' := by
  have C := hid (fun (w : World) (hd : Drawn W w) => of42 (H.below hd.below) hn l hl v hv hvn)
  obtain ⟨d0, d1, d2, d3, fz⟩ := H.cells hvn
  obtain ⟨o, c, rfl⟩ := own_slc H.lits
  obtain ⟨o2, cc2, rfl⟩ := own_slc H.begs
  have c0 := row_cell H.blk 0
  have c1 := row_cell H.blk 1
  have c2 := row_cell H.blk 2
  have f0 := fz (v * 4)
  have f1 := fz (v * 4 + 1)
  have f2 := fz (v * 4 + 2)
  have f3 := fz (v * 4 + 3)
  have HS := hid (fun q => (H.below (Drawn.below ⟨q, rfl⟩)).set4 (W := W.drewN q) hvn ⟨l, B.length, r, R.length⟩ (.int .i32 l) rfl)
  generalize f v = k at *
  have HR := hid hR
  clear fz H hv hR
  go_enter Try.func44, Try.ntmps44
  go_wp2_with (fail)
  go_region_with (go_at_call 42; refine (C.out _ ⟨1, rfl⟩).mono ?_; rintro e W7 ⟨rfl, q7, rfl⟩)
  all_goals
    obtain ⟨hT, hF⟩ := HS.out (1 + q7)
    obtain ⟨W8, hW8⟩ : ∃ W8, set4 (W.drewN (1 + q7)) gv (v * 4) (.int .i32 l) (.int .i64 (B.length : Nat)) (.int .i64 r) (.int .i64 (R.length : Nat)) = W8 := ⟨_, rfl⟩
    change Tr _ _ _ _ _ _ _ _ _ _ (set4 (W.drewN (1 + q7)) gv (v * 4) (.int .i32 l) (.int .i64 (B.length : Nat)) (.int .i64 r) (.int .i64 (R.length : Nat))) at hT
    change Fr _ _ _ (set4 (W.drewN (1 + q7)) gv (v * 4) (.int .i32 l) (.int .i64 (B.length : Nat)) (.int .i64 r) (.int .i64 (R.length : Nat))) at hF
    rw [hW8] at hT hF
    unfold set4 at hW8
    rw [hW8]
    have e1 := row_cell hT.blk 1
    obtain ⟨g, c9, X, hr, hc1, hf1, hT2, hF2⟩ := hT.push ⟨l, B.length, r⟩ HR.out
    have HRN := hid hr
    have HO := hid (show PutOut Q tb gv (.slice o2 B.length cc2) n (fun u => if u = v then ⟨l, B.length, r, R.length⟩ else f u) (R ++ [⟨l, B.length, r⟩]) B h W _ from ⟨_, hT2, (show Fr pA Q W (W.drewN (1 + q7)) from Fr.of_below (Drawn.below ⟨_, rfl⟩)).trans (hF.trans hF2)⟩)
    clear hT hF hr hT2 hF2 hW8 HS C c0 c1 c2 f0 f1 f2 f3 d0 d1 d2 d3
    go_wp2_with (at_builtin; refine wpList_append_run rfl (.tmp 27) (.tmp 29) 40 40 rfl rfl rfl HRN.out ?_)
    refine bodyPost_end (results_none rfl _ _ _) rfl ?_
    exact ⟨rfl, HO.out⟩
end Go.Proofs.Ytckpahdlcdgbpaa
