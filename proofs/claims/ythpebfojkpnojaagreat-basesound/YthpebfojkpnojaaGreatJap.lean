/- Add. -/
import Derived.Test.YthpebfojkpnojaaGreatJak
import Derived.Test.YthpebfojkpnojaaGreatJao
import Derived.Maps.RangeWalk
/- Add. -/
namespace Bas
theorem vr_pos {x : Int} (h : x ≠ 0) : 1 ≤ vr x := by unfold vr; split <;> omega
theorem followsE {s : S} (hg : Good s) {c hs : List Int} (hc : has s.vars c = true) : followsP (lookL s.live) c hs = followsD (lookL s.live) c hs :=
  followsP_eq _ (fun h d hd x hx => by
    unfold lookL at hd
    cases he : look s.live h with
    | none => rw [he] at hd; cases hd
    | some e =>
      rw [he] at hd
      obtain rfl : e.lits = d := by simpa using hd
      exact (hg.lits e (look_mem he).1 x hx).1) c hs (fun x hx => (has_spec hc x hx).1)
end Bas
namespace Go.Proofs.YthpebfojkpnojaaGreat
open Go.RowKit Go.Maps
set_option linter.unusedVariables false
set_option linter.unusedSimpArgs false
set_option maxRecDepth 100000
theorem own_RI {k : IntKind} {lo hi : Int} {e base n : Nat} {M1 : Nat → Prop} {W : World} {o : Option Addr} {c : Nat} {xs : List Int} (h : W.ownsRow base e 1 (.slice o n c) n (xs.map (Value.int k))) (hn : xs.length = n) (hr : ∀ x ∈ xs, lo ≤ x ∧ x ≤ hi) (hm : ∀ g, M1 g → g < base) : RI k lo hi M1 W o xs ∧ n ≤ c ∧ c ≤ maxLen := by
  rcases Nat.eq_zero_or_pos n with h0 | hp
  · subst h0
    have hx : xs = [] := List.eq_nil_of_length_eq_zero hn
    subst hx
    refine ⟨⟨⟨fun x hx => (by cases hx), .inl rfl⟩, fun _ _ _ hne => absurd rfl hne⟩, ?_⟩
    rcases h.2 with ⟨e1, _⟩ | ⟨g, c', cur, e1, _, _, h4, h5, _⟩
    · cases e1; exact ⟨Nat.le_refl _, by unfold maxLen; omega⟩
    · cases e1; exact ⟨h4, h5⟩
  · obtain ⟨g, c', cur, e1, hb, hg, h4, h5, h6, h7⟩ := own_some h hp
    cases e1
    refine ⟨⟨⟨hr, .inr ⟨g, 0, rfl, lt_of_blk hg, fun j hj => ?_⟩⟩, fun b off e2 _ h2 => by cases e2; have := hm _ h2; omega⟩, h4, h5⟩
    have : (cur.toList.take n)[j]? = (xs.map (Value.int k))[j]? := by rw [h7]
    rw [List.getElem?_take_of_lt (by omega), Array.getElem?_toList, List.getElem?_map, List.getElem?_eq_getElem hj] at this
    rw [Nat.zero_add, row_cell hg, this, List.getD_eq_getElem?_getD, List.getElem?_eq_getElem hj]
    rfl
theorem Bs.lastc {M : Nat → Prop} {bb K : Nat} {s : Bas.S} {W : World} (h : Bs M bb K s W) : W.cell? ⟨bb, 2, none⟩ = some (.int .i64 s.last) := by
  obtain ⟨bm, br, k, k2, f, g, rv, sv, tv, R, Z, rw, ids, iv, hb, _⟩ := h.mem
  exact row_cell hb 2
def AddOut (M : Nat → Prop) (bb K : Nat) (id r : Int) (s : Bas.S) (W : World) (en : Ending) (w' : World) : Prop := en = .returned (.tuple #[.int .i64 id, .int .i64 r]) ∧ ∃ M', Bs M' bb K s w' ∧ Fm M W w' ∧ Mn W M M'
set_option maxHeartbeats 8000000 in
theorem add5 {M : Nat → Prop} {bb K : Nat} {s : Bas.S} {W : World} (h : Bs M bb K s W) (hg : Bas.Good s) (hll : ∀ e ∈ s.live, e.lits.length ≤ 100000000) (h0 : 0 ≤ s.last) (hL : s.last < 100000000) (hru : s.rules.length ≤ 1000000000)
    (a : Option Addr) (n c : Nat) (lits : List Int) (hn : lits.length = n) (hN : n ≤ 16777216) (hK : K + 1 + n < maxLen) (hl : LI M W a lits)
    (ah : Option Addr) (nh ch : Nat) (hs : List Int) (hnh : hs.length = nh) (hNh : nh ≤ 16777216) (hh : HI M W ah hs) (red : Bool) :
    Calls Tryz.prog 20 #[.pointer (some ⟨bb, 0, none⟩), .slice a n c, .slice ah nh ch, .bool red] W fun en w' => AddOut M bb (K + 1 + n) (Bas.addR s lits hs) (Bas.addE s lits hs) (Bas.addS s lits hs red) W en w' := by
  have BAD := hid (fun (r : Int) (hr : Bas.addE s lits hs = r) (hr0 : r ≠ 0) X (hX : Bs M bb K s X) (hF : Fm M W X) => show AddOut M bb (K + 1 + n) (Bas.addR s lits hs) (Bas.addE s lits hs) (Bas.addS s lits hs red) W (.returned (.tuple #[.int .i64 0, .int .i64 r])) X from by
    have e1 : Bas.addR s lits hs = 0 := by unfold Bas.addR; rw [hr, if_neg hr0]
    have e2 : Bas.addS s lits hs red = s := by unfold Bas.addS; rw [hr, if_neg hr0]
    rw [e1, e2, hr]
    exact ⟨rfl, M, hX.more (by omega), hF, Mn.refl _ _⟩)
  have C28 := hid (full28 h)
  cases hfl : Bas.full s with
  | true =>
    have OUT := hid (BAD.out 3 (by simp [Bas.addE, hfl]) (by decide) W h (Fm.refl _ _))
    rw [hfl] at C28
    clear h hl hh BAD
    go_enter Tryz.func20, Tryz.ntmps20
    go_wp2_with (go_at_call 66; refine C28.out.mono ?_; rintro e w4 ⟨rfl, hw4⟩; rw [hw4]; clear hw4)
    go_ret2
    exact OUT.out
  | false =>
    rw [hfl] at C28
    have C29 := hid (has29 h a n c lits hn (by omega) hl.1)
    cases hhs : Bas.has s.vars lits with
    | false =>
      have OUT := hid (BAD.out 4 (by simp [Bas.addE, hfl, hhs]) (by decide) W h (Fm.refl _ _))
      rw [hhs] at C29
      clear h hl hh BAD
      go_enter Tryz.func20, Tryz.ntmps20
      go_wp2_with (first
        | (go_at_call 66; refine C28.out.mono ?_; rintro e w4 ⟨rfl, hw4⟩; rw [hw4]; clear hw4)
        | (go_at_call 67; refine C29.out.mono ?_; rintro e w4 ⟨rfl, hw4⟩; rw [hw4]; clear hw4))
      go_ret2
      exact OUT.out
    | true =>
      rw [hhs] at C29
      have hE : Bas.addE s lits hs = Bas.followsP (Bas.lookL s.live) lits hs := by rw [Bas.followsE hg hhs]; simp [Bas.addE, hfl, hhs]
      have C30 := hid (follows30 h (fun e he x hx => ⟨Bas.vr_pos (hg.lits e he x hx).1, (hg.lits e he x hx).2⟩) hll a n c lits hn (by omega) hl (fun x hx => ⟨Bas.vr_pos (Bas.has_spec hhs x hx).1, (Bas.has_spec hhs x hx).2⟩) ah nh ch hs hnh (by omega) hh)
      rw [← hE] at C30
      by_cases hz : Bas.addE s lits hs = 0
      · have e1 : Bas.addR s lits hs = s.last + 1 := by unfold Bas.addR; rw [if_pos hz]
        have e2 : Bas.addS s lits hs red = { Bas.entered s lits red with rules := s.rules ++ [⟨1, s.last + 1, 0, red, lits, hs⟩] } := by unfold Bas.addS; rw [if_pos hz]; rfl
        rw [e1, hz, e2]
        rw [hz] at C30
        have HE2 := hid e2
        clear BAD hE e1 e2 hz
        go_enter Tryz.func20, Tryz.ntmps20
        go_wp2_with (first
          | (go_at_call 66; refine C28.out.mono ?_; rintro e w4 ⟨rfl, hw4⟩; rw [hw4]; clear hw4)
          | (go_at_call 67; refine C29.out.mono ?_; rintro e w4 ⟨rfl, hw4⟩; rw [hw4]; clear hw4)
          | (go_at_call 68; refine C30.out.mono ?_; rintro e w1 ⟨rfl, hb5, hf5⟩; have HB5 := hid hb5; have HF5 := hid hf5; clear hb5 hf5))
        have HL1 := hid (hl.fm HF5.out (Mn.refl _ _))
        have HH1 := hid (hh.fm HF5.out (Mn.refl _ _))
        obtain ⟨M1, hM1⟩ : ∃ M1 : Nat → Prop, M1 = fun g => M g ∧ g < w1.heap.size := ⟨_, rfl⟩
        have hM1a : ∀ g, M1 g → M g ∧ g < w1.heap.size := fun g hg => by rw [hM1] at hg; exact hg
        have HB1 := hid (show Bs M1 bb K s w1 by rw [hM1]; exact HB5.out.cap)
        refine (clone31 a n c lits w1 hn hN HL1.out.1).mono ?_
        rintro e w2 ⟨o, k, rfl, ho, hb2⟩
        obtain ⟨hlo, hk1, hk2⟩ := own_RI (M1 := M1) ho hn hl.1.1 (fun g hg => (hM1a g hg).2)
        have HLO := hid hlo
        have HH2 := hid ((HH1.out.cap (fun g hg => (hM1a g hg).1) : HI M1 w1 ah hs).below hb2)
        have HC32 := hid (enter32 (HB1.out.below hb2) h0 hL (fun e he => (hg.ids e he).2) red o n k lits hn (by omega) hK hlo ⟨by omega, hk2⟩)
        have HB2 := hid hb2
        clear ho hb2 hlo h hl hh HL1 HH1 HB1
        go_wp2_with fail
        refine HC32.out.mono ?_
        rintro e w3 ⟨rfl, M2, hB3, hF3, hN3⟩
        obtain ⟨M3, hM3⟩ : ∃ M3 : Nat → Prop, M3 = fun g => M2 g ∧ g < w3.heap.size := ⟨_, rfl⟩
        have hM3a : ∀ g, M3 g → M2 g ∧ g < w3.heap.size := fun g hg => by rw [hM3] at hg; exact hg
        have HB3 := hid (show Bs M3 bb (K + 1 + n) (Bas.entered s lits red) w3 by rw [hM3]; exact hB3.cap)
        have HL3 := hid ((HLO.out.fm hF3 hN3).cap (fun g hg => (hM3a g hg).1) : LI M3 w3 o lits)
        have HH3 := hid ((HH2.out.fm hF3 hN3).cap (fun g hg => (hM3a g hg).1) : HI M3 w3 ah hs)
        have HFN := hid (show Fm M W w3 ∧ Mn W M M3 from by
          have m1 : Mn w1 M M1 := fun g hg => .inl (hM1a g hg).1
          have f2 : Fm M W w2 := HF5.out.trans (Fm.of_below (M := M1) HB2.out) (fun g hg => .inl (hM1a g hg).1)
          have f3 : Fm M W w3 := f2.trans hF3 (fun g hg => .inl (hM1a g hg).1)
          refine ⟨f3, fun g hg => ?_⟩
          rcases hN3 g (hM3a g hg).1 with h | h
          · exact .inl (hM1a g h).1
          · exact .inr (Nat.le_trans f2.size h))
        have x2 : w3.cell? ⟨bb, 2, none⟩ = some (.int .i64 (s.last + 1)) := HB3.out.lastc
        have HX2 := hid (fun X (hX : Below w3.heap.size w3 X) => (hX.cell (p := ⟨bb, 2, none⟩) (cell_lt x2)).trans x2)
        have HC34 := hid (fun X (hX : Below w3.heap.size w3 X) => clone34 ah nh ch hs X hnh hNh (HH3.out.below hX).1)
        have HHR := hid HH3.out.1.1
        have HC33 := hid (fun X (hX : Below w3.heap.size w3 X) o2 k2 (hr2 : HI M3 X o2 hs) => note33 (HB3.out.below hX) ⟨1, s.last + 1, 0, red, lits, hs⟩ o k o2 k2 ⟨by show (0 : Int) ≤ 1; decide, by show (1 : Int) < 256; decide⟩ (HL3.out.below hX) hr2 hru)
        clear hB3 hF3 hN3 HC32 HLO HH2 x2
        simp only [ruleV, hn, hnh] at HC33
        have HBD := hid (show Below w3.heap.size w3 w3.drew from (Below.refl _ _).drew)
        have HM3 := hid (fun g hg => (hM3a g hg).2)
        have OUT := hid (fun w4 w5 (hb4 : Below w3.heap.size w3 w4) (ho5 : NoteOut M3 bb (K + 1 + n) { Bas.entered s lits red with rules := (Bas.entered s lits red).rules ++ [⟨1, s.last + 1, 0, red, lits, hs⟩] } w4 (.returned (.tuple #[])) w5) => show w5.cell? ⟨bb, 2, none⟩ = some (.int .i64 (s.last + 1)) ∧ AddOut M bb (K + 1 + n) (s.last + 1) 0 { Bas.entered s lits red with rules := s.rules ++ [⟨1, s.last + 1, 0, red, lits, hs⟩] } W (.returned (.tuple #[.int .i64 (s.last + 1), .int .i64 0])) w5 from by
          obtain ⟨_, M5, q1, q2, q3⟩ := ho5
          obtain ⟨hF, hN⟩ := HFN.out
          refine ⟨q1.lastc, rfl, M5, q1, (hF.trans (Fm.of_below (M := M3) hb4) hN).trans q2 hN, ?_⟩
          exact hN.trans q3 (Nat.le_trans hF.size hb4.size))
        clear hM3 hM3a hM1 hM1a HL3 HH3 HFN HB3 HF5 HB5 HE2
        go_wp2_with fail
        go_region_held3 (fun X => X.cell? ⟨bb, 2, none⟩ = some (.int .i64 (s.last + 1)))
          (first | exact HX2.out _ HBD.out | exact HX2.out _ hb4' | exact HO5.out.1)
          (first
            | (go_at_call 40; refine (HC34.out _ HBD.out).mono ?_; rintro e w4 ⟨o2, k2, rfl, ho2, hb4⟩
               have hb4' := (show Below w3.heap.size w3 w4 from HBD.out.trans (hb4.mono (by simp)))
               have HR2 := hid (own_RI (M1 := M3) ho2 hnh HHR.out (fun g hg => HM3.out g hg)).1
               clear ho2 hb4)
            | (go_at_call 69; refine (HC33.out w4 hb4' o2 k2 HR2.out).mono ?_; rintro e w5 ho5; have hen := ho5.1; subst hen; have HO5 := hid (OUT.out w4 w5 hb4' ho5); clear ho5))
        have x5 := HO5.out.1
        go_wp2_with fail
        go_ret2
        exact HO5.out.2
      · obtain ⟨r, hr⟩ : ∃ r, Bas.addE s lits hs = r := ⟨_, rfl⟩
        rw [hr] at hz C30
        have OUT := hid (fun X hX hF => BAD.out r hr hz X hX hF)
        have hrb : (r != 0) = true := by simp [hz]
        clear h hl hh BAD hE
        go_enter Tryz.func20, Tryz.ntmps20
        go_wp2_with (first
          | (go_at_call 66; refine C28.out.mono ?_; rintro e w4 ⟨rfl, hw4⟩; rw [hw4]; clear hw4)
          | (go_at_call 67; refine C29.out.mono ?_; rintro e w4 ⟨rfl, hw4⟩; rw [hw4]; clear hw4)
          | (go_at_call 68; refine C30.out.mono ?_; rintro e w5 ⟨rfl, hb5, hf5⟩; have HB5 := hid hb5; have HF5 := hid hf5; clear hb5 hf5))
        go_ret2
        exact OUT.out _ HB5.out HF5.out
end Go.Proofs.YthpebfojkpnojaaGreat

/- Empty: the least id of an empty clause. -/
namespace Bas
def emptyOf (L : List E) : Int := match L.find? (fun e => e.lits.isEmpty) with
  | none => 0
  | some e => e.id
theorem empty_unique {L : List E} (hs : L.Pairwise (fun d e => d.id < e.id)) {x : Int} (h1 : x = 0 ∨ ∃ e, look L x = some e ∧ e.lits = []) (h2 : ∀ e ∈ L, e.lits = [] → x ≠ 0 ∧ x ≤ e.id) : emptyOf L = x := by
  unfold emptyOf
  cases hf : L.find? (fun e => e.lits.isEmpty) with
  | none =>
    rcases h1 with h | ⟨e, he, hl⟩
    · exact h.symm
    · have := List.find?_eq_none.1 hf e (look_mem he).1
      rw [hl] at this
      exact absurd rfl this
  | some e0 =>
    obtain ⟨hp, as1, bs, rfl, hna⟩ := List.find?_eq_some_iff_append.1 hf
    have hl0 : e0.lits = [] := by simpa using hp
    obtain ⟨hx0, hx1⟩ := h2 e0 (by simp) hl0
    rcases h1 with h | ⟨e, he, hl⟩
    · exact absurd h hx0
    · obtain ⟨hm, hid⟩ := look_mem he
      rcases List.mem_append.1 hm with h | h
      · have := hna e h
        rw [hl] at this
        exact absurd this (by simp)
      · rcases List.mem_cons.1 h with rfl | h
        · exact hid
        · have := (List.pairwise_cons.1 (List.pairwise_append.1 hs).2.1).1 e h
          show e0.id = x
          omega
end Bas
namespace Go.Proofs.YthpebfojkpnojaaGreat
open Go.RowKit Go.Maps
set_option linter.unusedVariables false
set_option linter.unusedSimpArgs false
set_option maxRecDepth 100000
/-- The least so far, of those that are no longer to come. -/
structure EmpI (L : List Bas.E) (left : Lit → Bool) (x : Int) : Prop where
  is : x = 0 ∨ ∃ e, Bas.look L x = some e ∧ e.lits = []
  least : ∀ id e, I64 id → Bas.look L id = some e → e.lits = [] → left (.int .i64 id) = false → x ≠ 0 ∧ x ≤ id
theorem EmpI.step {L : List Bas.E} {left : Lit → Bool} {x id : Int} {e : Bas.E} (h : EmpI L left x) (he : Bas.look L id = some e) (hp : 1 ≤ id) (y : Int) (hy : y = if e.lits = [] ∧ (x = 0 ∨ id < x) then id else x) : EmpI L (fun z => left z && !z.sameKey (.int .i64 id)) y := by
  subst hy
  refine ⟨?_, fun i d hi hd hl hlf => ?_⟩
  · split
    · rename_i hc; exact .inr ⟨e, he, hc.1⟩
    · exact h.is
  · have hk : left (.int .i64 i) = false ∨ i = id := by
      simp only [Bool.and_eq_false_iff, Bool.not_eq_false', Lit.sameKey, decide_eq_true_eq] at hlf
      rcases hlf with h1 | h1
      · exact .inl h1
      · exact .inr h1.2
    rcases hk with h1 | rfl
    · obtain ⟨a, b⟩ := h.least i d hi hd hl h1
      split
      · rename_i hc
        refine ⟨by omega, ?_⟩
        rcases hc.2 with h2 | h2
        · exact absurd h2 a
        · omega
      · exact ⟨a, b⟩
    · rw [he] at hd
      obtain rfl : e = d := by simpa using hd
      split
      · exact ⟨by omega, Int.le_refl _⟩
      · rename_i hc
        have : ¬ (x = 0 ∨ i < x) := fun h2 => hc ⟨hl, h2⟩
        omega
theorem below_grown' {n : Nat} {A W W' : World} {row : Option Nat} (hb : Below n A W) (hg : W.grownBy W' row) (hr : ∀ k, row = some k → n ≤ k) (hn : n ≤ W.heap.size) : Below n A W' := below_grown hb hg hr hn
def EmpOut (x : Int) (W : World) (en : Ending) (w' : World) : Prop := en = .returned (.tuple #[.int .i64 x, .bool (x != 0)]) ∧ Below W.heap.size W w'
set_option maxHeartbeats 8000000 in
theorem empty7 {M : Nat → Prop} {bb K : Nat} {s : Bas.S} {W : World} (h : Bs M bb K s W) (hg : Bas.Good s) (hL : s.last ≤ 1000000000) :
    Calls Tryz.prog 27 #[.pointer (some ⟨bb, 0, none⟩)] W fun en w' => EmpOut (Bas.emptyOf s.live) W en w' := by
  have h' := h
  obtain ⟨hv, bm, br, k, k2, f, g, rv, sv, tv, R, Z, rw', ids, iv, hb, m1, m2, m3, hne, ⟨⟨D, a0, a1⟩, a2, a3⟩, _⟩ := h'
  have x3 : W.cell? ⟨bb, 3, none⟩ = some (.map (some bm)) := row_cell hb 3
  have HA := hid (fun (id : Int) (hi : I64 id) => a3 id hi)
  have HD := hid (fun (id : Int) (hi : I64 id) => a1 id hi)
  have HFIN := hid (fun (left : Lit → Bool) (x : Int) (hI : EmpI s.live left x) (hl : ∀ kl, left kl = false) => show Bas.emptyOf s.live = x from Bas.empty_unique hg.sorted hI.is (fun e he hle => hI.least e.id e ⟨by have := (hg.ids e he).1; omega, by have := (hg.ids e he).2; omega⟩ (Bas.look_of_mem hg.sorted he) hle (hl _)))
  have HST := hid (show EmpI s.live (Maps.has D) 0 from ⟨.inl rfl, fun id e hi he hl hh => by
    exfalso
    rw [(a1 id hi).1] at hh
    have := a3 id hi
    rw [he] at this
    obtain ⟨_, _, hf, _⟩ := this
    rw [hf] at hh
    cases hh⟩)
  have HP := hid (fun (id : Int) (e : Bas.E) (he : Bas.look s.live id = some e) => show 1 ≤ id ∧ e.id = id from by
    obtain ⟨h1, h2⟩ := Bas.look_mem he
    exact ⟨h2 ▸ (hg.ids e h1).1, h2⟩)
  clear h hb a1 a3 hg
  go_enter Tryz.func27, Tryz.ntmps27
  go_wp2_with (at_range; refine wpList_range_own _ rfl _ 71 rfl 2 83 klawMp Tryz.underlying71 _ bm k D rfl a0 ?_; intro w0 hrg0 hg0 hs0)
  go_frame
  have HB0 := hid (show Below W.heap.size W w0 from below_grown' (Below.refl _ _) hg0 (fun j hj => by cases hj) (Nat.le_refl _))
  clear hg0
  go_loopw [4] (fun lv wr => ∃ (left : Lit → Bool) (cnt : Nat) (x : Int), wr.ranges Tryz.prog 2 raw bm W.heap.size k D left cnt ∧ lv = .int .i64 x ∧ Hid (EmpI s.live left x) ∧ Hid (Below W.heap.size W wr)) (fun _ wr => wr.rangeLeft bm W.heap.size)
  case atStart => exact ⟨_, _, 0, hrg0, rfl, HST, HB0⟩
  case round =>
    obtain ⟨left, cnt, x, hrg, rfl, HI, HB⟩ := hrel
    go_wp2_with (at_next; refine wpList_next_ranges _ rfl _ rfl 2 klawMp raw (fun x : Int => Value.int .i64 x) (fun v : Value => v) (fun key kl hk => by obtain ⟨x, e, _⟩ := Maps.keyOf_int_inv Tryz.underlying2 hk; exact ⟨x, e⟩) (fun v y _ => ⟨v, rfl⟩) bm W.heap.size k D left cnt rfl hrg ?_ ?_)
    · intro hc0 hl0
      have HE := hid (HFIN.out left x HI.out hl0)
      clear hl0 hrg
      go_wp2
      go_ret2
      exact ⟨by rw [HE.out]; rfl, HB.out⟩
    · intro id v kl y ps w1 cnt1 hkey hlk hR hat hrg1 hlt hg1 hs1 hen
      obtain ⟨id', e1, e2, hwf⟩ := Maps.keyOf_int_inv Tryz.underlying2 hkey
      injection e1 with _ e1
      subst e1 e2
      have hI : I64 id := by
        unfold Lit.wf at hwf
        simp only [Bool.and_eq_true, decide_eq_true_eq] at hwf
        exact ⟨hwf.1, hwf.2⟩
      simp only [raw, Option.some.injEq, Prod.mk.injEq] at hR
      obtain ⟨rfl, _⟩ := hR
      obtain ⟨d1, d2⟩ := HD.out id hI
      have d3 := HA.out id hI
      rw [has_true_of_atKey hat] at d1
      obtain ⟨e, he, a, c, hfe⟩ : ∃ e, Bas.look s.live id = some e ∧ ∃ a c, f id = some (entV e a c) := by
        cases hk : Bas.look s.live id with
        | none =>
          rw [hk] at d3
          simp only [EntAt] at d3
          rw [d3] at d1
          cases d1
        | some e =>
          rw [hk] at d3
          obtain ⟨a, c, h1, _⟩ := d3
          exact ⟨e, rfl, a, c, h1⟩
      rw [hat, hfe] at d2
      simp only [Option.getD_some, DataW.held.injEq] at d2
      subst d2
      obtain ⟨hp, hid1⟩ := HP.out id e he
      have HSTP := hid (fun y hy => HI.out.step he hp y hy)
      have HRG := hid (fun o => hrg1.alloc o)
      have HBN := hid (fun o => show Below W.heap.size W (w1.alloc o) from (below_grown' HB.out hg1 (fun j hj => by cases hj; exact Nat.le_refl _) HB.out.size).trans ((below_box w1 o).mono (by have := HB.out.size; omega)))
      have HLT := hid hlt
      have hlq := hrg.left_eq
      have HLQ := hid hlq
      simp only [entV] at hen
      obtain ⟨el, hel⟩ : ∃ el, e.lits.length = el := ⟨_, rfl⟩
      have HNIL := hid (show e.lits = [] ↔ el = 0 from by rw [← hel]; exact List.length_eq_zero_iff.symm)
      rw [hel] at hen
      clear hrg1 hg1 hat d1 d3 hfe he hlq hel hlt hrg hkey hlk
      have key : (el ≠ 0 ∨ (el = 0 ∧ x = 0) ∨ (el = 0 ∧ x ≠ 0 ∧ id < x) ∨ (el = 0 ∧ x ≠ 0 ∧ ¬ id < x)) := by omega
      rcases key with h1 | ⟨rfl, rfl⟩ | ⟨rfl, h2, h3⟩ | ⟨rfl, h2, h3⟩
      · have b1 : (((el : Nat) : Int) == 0) = false := by simp [h1]
        have HS2 := hid (HSTP.out x (by rw [if_neg (fun h => h1 (HNIL.out.1 h.1))]))
        clear h1
        go_wp2
        exact ⟨⟨_, _, _, HRG.out _, rfl, HS2, hid (HBN.out _)⟩, by rw [(HRG.out _).left_eq, HLQ.out]; exact HLT.out⟩
      · have HS2 := hid (HSTP.out id (by rw [if_pos ⟨HNIL.out.2 rfl, .inl rfl⟩]))
        go_wp2
        exact ⟨⟨_, _, _, HRG.out _, rfl, HS2, hid (HBN.out _)⟩, by rw [(HRG.out _).left_eq, HLQ.out]; exact HLT.out⟩
      · have b2 : (x == 0) = false := by simp [h2]
        have HS2 := hid (HSTP.out id (by rw [if_pos ⟨HNIL.out.2 rfl, .inr h3⟩]))
        go_wp2
        exact ⟨⟨_, _, _, HRG.out _, rfl, HS2, hid (HBN.out _)⟩, by rw [(HRG.out _).left_eq, HLQ.out]; exact HLT.out⟩
      · have b2 : (x == 0) = false := by simp [h2]
        have HS2 := hid (HSTP.out x (by rw [if_neg (fun h => by rcases h.2 with h | h; exact h2 h; exact h3 h)]))
        go_wp2
        exact ⟨⟨_, _, _, HRG.out _, rfl, HS2, hid (HBN.out _)⟩, by rw [(HRG.out _).left_eq, HLQ.out]; exact HLT.out⟩
end Go.Proofs.YthpebfojkpnojaaGreat

