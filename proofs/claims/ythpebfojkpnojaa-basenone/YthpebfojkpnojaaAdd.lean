/- Add. -/
import Derived.Test.YthpebfojkpnojaaFlw
import Derived.Test.YthpebfojkpnojaaDel
namespace Bas
theorem vr_pos {x : Int} (h : x ≠ 0) : 1 ≤ vr x := by unfold vr; split <;> omega
theorem followsE {s : S} (hg : Good s) {c hs : List Int} (hc : has s.vars c = true) : followsP (lookL s.live) c hs = followsD (lookL s.live) c hs :=
  followsP_eq _ (fun h d hd x hx => by
    unfold lookL at hd
    cases he : look s.live h with
    | none => rw [he] at hd; cases hd
    | some e =>
      rw [he] at hd
      obtain rfl : e.lits = d := by simpa using hd
      exact (hg.lits e (look_mem he).1 x hx).1) c hs (fun x hx => (has_spec hc x hx).1)
end Bas
namespace Go.Proofs.Ythpebfojkpnojaa
open Go.RowKit Go.Maps
set_option linter.unusedVariables false
set_option linter.unusedSimpArgs false
set_option maxRecDepth 100000
theorem own_RI {k : IntKind} {lo hi : Int} {e base n : Nat} {M1 : Nat → Prop} {W : World} {o : Option Addr} {c : Nat} {xs : List Int} (h : W.ownsRow base e 1 (.slice o n c) n (xs.map (Value.int k))) (hn : xs.length = n) (hr : ∀ x ∈ xs, lo ≤ x ∧ x ≤ hi) (hm : ∀ g, M1 g → g < base) : RI k lo hi M1 W o xs ∧ n ≤ c ∧ c ≤ maxLen := by
  rcases Nat.eq_zero_or_pos n with h0 | hp
  · subst h0
    have hx : xs = [] := List.eq_nil_of_length_eq_zero hn
    subst hx
    refine ⟨⟨⟨fun x hx => (by cases hx), .inl rfl⟩, fun _ _ _ hne => absurd rfl hne⟩, ?_⟩
    rcases h.2 with ⟨e1, _⟩ | ⟨g, c', cur, e1, _, _, h4, h5, _⟩
    · cases e1; exact ⟨Nat.le_refl _, by unfold maxLen; omega⟩
    · cases e1; exact ⟨h4, h5⟩
  · obtain ⟨g, c', cur, e1, hb, hg, h4, h5, h6, h7⟩ := own_some h hp
    cases e1
    refine ⟨⟨⟨hr, .inr ⟨g, 0, rfl, lt_of_blk hg, fun j hj => ?_⟩⟩, fun b off e2 _ h2 => by cases e2; have := hm _ h2; omega⟩, h4, h5⟩
    have : (cur.toList.take n)[j]? = (xs.map (Value.int k))[j]? := by rw [h7]
    rw [List.getElem?_take_of_lt (by omega), Array.getElem?_toList, List.getElem?_map, List.getElem?_eq_getElem hj] at this
    rw [Nat.zero_add, row_cell hg, this, List.getD_eq_getElem?_getD, List.getElem?_eq_getElem hj]
    rfl
theorem Bs.lastc {M : Nat → Prop} {bb K : Nat} {s : Bas.S} {W : World} (h : Bs M bb K s W) : W.cell? ⟨bb, 2, none⟩ = some (.int .i64 s.last) := by
  obtain ⟨bm, br, k, k2, f, g, rv, sv, tv, R, Z, rw, ids, iv, hb, _⟩ := h.mem
  exact row_cell hb 2
def AddOut (M : Nat → Prop) (bb K : Nat) (id r : Int) (s : Bas.S) (W : World) (en : Ending) (w' : World) : Prop := en = .returned (.tuple #[.int .i64 id, .int .i64 r]) ∧ ∃ M', Bs M' bb K s w' ∧ Fm M W w' ∧ Mn W M M'
set_option maxHeartbeats 8000000 in
theorem add5 {M : Nat → Prop} {bb K : Nat} {s : Bas.S} {W : World} (h : Bs M bb K s W) (hg : Bas.Good s) (hll : ∀ e ∈ s.live, e.lits.length ≤ 100000000) (h0 : 0 ≤ s.last) (hL : s.last < 100000000) (hru : s.rules.length ≤ 1000000000)
    (a : Option Addr) (n c : Nat) (lits : List Int) (hn : lits.length = n) (hN : n ≤ 16777216) (hK : K + 1 + n < maxLen) (hl : LI M W a lits)
    (ah : Option Addr) (nh ch : Nat) (hs : List Int) (hnh : hs.length = nh) (hNh : nh ≤ 16777216) (hh : HI M W ah hs) (red : Bool) :
    Calls Try.prog 5 #[.pointer (some ⟨bb, 0, none⟩), .slice a n c, .slice ah nh ch, .bool red] W fun en w' => AddOut M bb (K + 1 + n) (Bas.addR s lits hs) (Bas.addE s lits hs) (Bas.addS s lits hs red) W en w' := by
  have BAD := hid (fun (r : Int) (hr : Bas.addE s lits hs = r) (hr0 : r ≠ 0) X (hX : Bs M bb K s X) (hF : Fm M W X) => show AddOut M bb (K + 1 + n) (Bas.addR s lits hs) (Bas.addE s lits hs) (Bas.addS s lits hs red) W (.returned (.tuple #[.int .i64 0, .int .i64 r])) X from by
    have e1 : Bas.addR s lits hs = 0 := by unfold Bas.addR; rw [hr, if_neg hr0]
    have e2 : Bas.addS s lits hs red = s := by unfold Bas.addS; rw [hr, if_neg hr0]
    rw [e1, e2, hr]
    exact ⟨rfl, M, hX.more (by omega), hF, Mn.refl _ _⟩)
  have C28 := hid (full28 h)
  cases hfl : Bas.full s with
  | true =>
    have OUT := hid (BAD.out 3 (by simp [Bas.addE, hfl]) (by decide) W h (Fm.refl _ _))
    rw [hfl] at C28
    clear h hl hh BAD
    go_enter Try.func5, Try.ntmps5
    go_wp2_with (go_at_call 28; refine C28.out.mono ?_; rintro e w4 ⟨rfl, hw4⟩; rw [hw4]; clear hw4)
    go_ret2
    exact OUT.out
  | false =>
    rw [hfl] at C28
    have C29 := hid (has29 h a n c lits hn (by omega) hl.1)
    cases hhs : Bas.has s.vars lits with
    | false =>
      have OUT := hid (BAD.out 4 (by simp [Bas.addE, hfl, hhs]) (by decide) W h (Fm.refl _ _))
      rw [hhs] at C29
      clear h hl hh BAD
      go_enter Try.func5, Try.ntmps5
      go_wp2_with (first
        | (go_at_call 28; refine C28.out.mono ?_; rintro e w4 ⟨rfl, hw4⟩; rw [hw4]; clear hw4)
        | (go_at_call 29; refine C29.out.mono ?_; rintro e w4 ⟨rfl, hw4⟩; rw [hw4]; clear hw4))
      go_ret2
      exact OUT.out
    | true =>
      rw [hhs] at C29
      have hE : Bas.addE s lits hs = Bas.followsP (Bas.lookL s.live) lits hs := by rw [Bas.followsE hg hhs]; simp [Bas.addE, hfl, hhs]
      have C30 := hid (follows30 h (fun e he x hx => ⟨Bas.vr_pos (hg.lits e he x hx).1, (hg.lits e he x hx).2⟩) hll a n c lits hn (by omega) hl (fun x hx => ⟨Bas.vr_pos (Bas.has_spec hhs x hx).1, (Bas.has_spec hhs x hx).2⟩) ah nh ch hs hnh (by omega) hh)
      rw [← hE] at C30
      by_cases hz : Bas.addE s lits hs = 0
      · have e1 : Bas.addR s lits hs = s.last + 1 := by unfold Bas.addR; rw [if_pos hz]
        have e2 : Bas.addS s lits hs red = { Bas.entered s lits red with rules := s.rules ++ [⟨1, s.last + 1, 0, red, lits, hs⟩] } := by unfold Bas.addS; rw [if_pos hz]; rfl
        rw [e1, hz, e2]
        rw [hz] at C30
        have HE2 := hid e2
        clear BAD hE e1 e2 hz
        go_enter Try.func5, Try.ntmps5
        go_wp2_with (first
          | (go_at_call 28; refine C28.out.mono ?_; rintro e w4 ⟨rfl, hw4⟩; rw [hw4]; clear hw4)
          | (go_at_call 29; refine C29.out.mono ?_; rintro e w4 ⟨rfl, hw4⟩; rw [hw4]; clear hw4)
          | (go_at_call 30; refine C30.out.mono ?_; rintro e w1 ⟨rfl, hb5, hf5⟩; have HB5 := hid hb5; have HF5 := hid hf5; clear hb5 hf5))
        have HL1 := hid (hl.fm HF5.out (Mn.refl _ _))
        have HH1 := hid (hh.fm HF5.out (Mn.refl _ _))
        obtain ⟨M1, hM1⟩ : ∃ M1 : Nat → Prop, M1 = fun g => M g ∧ g < w1.heap.size := ⟨_, rfl⟩
        have hM1a : ∀ g, M1 g → M g ∧ g < w1.heap.size := fun g hg => by rw [hM1] at hg; exact hg
        have HB1 := hid (show Bs M1 bb K s w1 by rw [hM1]; exact HB5.out.cap)
        refine (clone31 a n c lits w1 hn hN HL1.out.1).mono ?_
        rintro e w2 ⟨o, k, rfl, ho, hb2⟩
        obtain ⟨hlo, hk1, hk2⟩ := own_RI (M1 := M1) ho hn hl.1.1 (fun g hg => (hM1a g hg).2)
        have HLO := hid hlo
        have HH2 := hid ((HH1.out.cap (fun g hg => (hM1a g hg).1) : HI M1 w1 ah hs).below hb2)
        have HC32 := hid (enter32 (HB1.out.below hb2) h0 hL (fun e he => (hg.ids e he).2) red o n k lits hn (by omega) hK hlo ⟨by omega, hk2⟩)
        have HB2 := hid hb2
        clear ho hb2 hlo h hl hh HL1 HH1 HB1
        go_wp2_with fail
        refine HC32.out.mono ?_
        rintro e w3 ⟨rfl, M2, hB3, hF3, hN3⟩
        obtain ⟨M3, hM3⟩ : ∃ M3 : Nat → Prop, M3 = fun g => M2 g ∧ g < w3.heap.size := ⟨_, rfl⟩
        have hM3a : ∀ g, M3 g → M2 g ∧ g < w3.heap.size := fun g hg => by rw [hM3] at hg; exact hg
        have HB3 := hid (show Bs M3 bb (K + 1 + n) (Bas.entered s lits red) w3 by rw [hM3]; exact hB3.cap)
        have HL3 := hid ((HLO.out.fm hF3 hN3).cap (fun g hg => (hM3a g hg).1) : LI M3 w3 o lits)
        have HH3 := hid ((HH2.out.fm hF3 hN3).cap (fun g hg => (hM3a g hg).1) : HI M3 w3 ah hs)
        have HFN := hid (show Fm M W w3 ∧ Mn W M M3 from by
          have m1 : Mn w1 M M1 := fun g hg => .inl (hM1a g hg).1
          have f2 : Fm M W w2 := HF5.out.trans (Fm.of_below (M := M1) HB2.out) (fun g hg => .inl (hM1a g hg).1)
          have f3 : Fm M W w3 := f2.trans hF3 (fun g hg => .inl (hM1a g hg).1)
          refine ⟨f3, fun g hg => ?_⟩
          rcases hN3 g (hM3a g hg).1 with h | h
          · exact .inl (hM1a g h).1
          · exact .inr (Nat.le_trans f2.size h))
        have x2 : w3.cell? ⟨bb, 2, none⟩ = some (.int .i64 (s.last + 1)) := HB3.out.lastc
        have HX2 := hid (fun X (hX : Below w3.heap.size w3 X) => (hX.cell (p := ⟨bb, 2, none⟩) (cell_lt x2)).trans x2)
        have HC34 := hid (fun X (hX : Below w3.heap.size w3 X) => clone34 ah nh ch hs X hnh hNh (HH3.out.below hX).1)
        have HHR := hid HH3.out.1.1
        have HC33 := hid (fun X (hX : Below w3.heap.size w3 X) o2 k2 (hr2 : HI M3 X o2 hs) => note33 (HB3.out.below hX) ⟨1, s.last + 1, 0, red, lits, hs⟩ o k o2 k2 ⟨by show (0 : Int) ≤ 1; decide, by show (1 : Int) < 256; decide⟩ (HL3.out.below hX) hr2 hru)
        clear hB3 hF3 hN3 HC32 HLO HH2 x2
        simp only [ruleV, hn, hnh] at HC33
        have HBD := hid (show Below w3.heap.size w3 w3.drew from (Below.refl _ _).drew)
        have HM3 := hid (fun g hg => (hM3a g hg).2)
        have OUT := hid (fun w4 w5 (hb4 : Below w3.heap.size w3 w4) (ho5 : NoteOut M3 bb (K + 1 + n) { Bas.entered s lits red with rules := (Bas.entered s lits red).rules ++ [⟨1, s.last + 1, 0, red, lits, hs⟩] } w4 (.returned (.tuple #[])) w5) => show w5.cell? ⟨bb, 2, none⟩ = some (.int .i64 (s.last + 1)) ∧ AddOut M bb (K + 1 + n) (s.last + 1) 0 { Bas.entered s lits red with rules := s.rules ++ [⟨1, s.last + 1, 0, red, lits, hs⟩] } W (.returned (.tuple #[.int .i64 (s.last + 1), .int .i64 0])) w5 from by
          obtain ⟨_, M5, q1, q2, q3⟩ := ho5
          obtain ⟨hF, hN⟩ := HFN.out
          refine ⟨q1.lastc, rfl, M5, q1, (hF.trans (Fm.of_below (M := M3) hb4) hN).trans q2 hN, ?_⟩
          exact hN.trans q3 (Nat.le_trans hF.size hb4.size))
        clear hM3 hM3a hM1 hM1a HL3 HH3 HFN HB3 HF5 HB5 HE2
        go_wp2_with fail
        go_region_held3 (fun X => X.cell? ⟨bb, 2, none⟩ = some (.int .i64 (s.last + 1)))
          (first | exact HX2.out _ HBD.out | exact HX2.out _ hb4' | exact HO5.out.1)
          (first
            | (go_at_call 34; refine (HC34.out _ HBD.out).mono ?_; rintro e w4 ⟨o2, k2, rfl, ho2, hb4⟩
               have hb4' := (show Below w3.heap.size w3 w4 from HBD.out.trans (hb4.mono (by simp)))
               have HR2 := hid (own_RI (M1 := M3) ho2 hnh HHR.out (fun g hg => HM3.out g hg)).1
               clear ho2 hb4)
            | (go_at_call 33; refine (HC33.out w4 hb4' o2 k2 HR2.out).mono ?_; rintro e w5 ho5; have hen := ho5.1; subst hen; have HO5 := hid (OUT.out w4 w5 hb4' ho5); clear ho5))
        have x5 := HO5.out.1
        go_wp2_with fail
        go_ret2
        exact HO5.out.2
      · obtain ⟨r, hr⟩ : ∃ r, Bas.addE s lits hs = r := ⟨_, rfl⟩
        rw [hr] at hz C30
        have OUT := hid (fun X hX hF => BAD.out r hr hz X hX hF)
        have hrb : (r != 0) = true := by simp [hz]
        clear h hl hh BAD hE
        go_enter Try.func5, Try.ntmps5
        go_wp2_with (first
          | (go_at_call 28; refine C28.out.mono ?_; rintro e w4 ⟨rfl, hw4⟩; rw [hw4]; clear hw4)
          | (go_at_call 29; refine C29.out.mono ?_; rintro e w4 ⟨rfl, hw4⟩; rw [hw4]; clear hw4)
          | (go_at_call 30; refine C30.out.mono ?_; rintro e w5 ⟨rfl, hb5, hf5⟩; have HB5 := hid hb5; have HF5 := hid hf5; clear hb5 hf5))
        go_ret2
        exact OUT.out _ HB5.out HF5.out
end Go.Proofs.Ythpebfojkpnojaa
