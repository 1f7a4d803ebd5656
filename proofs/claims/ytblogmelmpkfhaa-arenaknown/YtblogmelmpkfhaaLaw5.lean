/- ArenaFinds. -/
import Derived.Test.YtblogmelmpkfhaaFnC
import Derived.Deep.DeepCutAuto
namespace Arn
theorem flat_len (cs : List (List Int)) (k : Nat) (h : k < cs.length) : ((cs.take (k + 1)).flatten).length = ((cs.take k).flatten).length + (cs.getD k []).length := by
  rw [take_cls cs k h]; simp
theorem nz_take (cs : List (List Int)) (k : Nat) (h : k < cs.length) (h1 : ∀ c ∈ cs.take k, (0 : Int) ∉ c) (h2 : (0 : Int) ∉ cs.getD k []) : ∀ c ∈ cs.take (k + 1), (0 : Int) ∉ c := by
  rw [take_cls cs k h]
  intro c hc
  rcases List.mem_append.1 hc with hc | hc
  · exact h1 c hc
  · rw [List.mem_singleton.1 hc]; exact h2
theorem flat_le (cs : List (List Int)) (k : Nat) : (cs.take k).flatten.length ≤ cs.flatten.length := by
  conv => rhs; rw [← List.take_append_drop k cs, List.flatten_append, List.length_append]
  omega
end Arn
namespace Go.Proofs.Ytblogmelmpkfhaa
open Go.RowKit Go.Maps
set_option linter.unusedVariables false

theorem stays_old {n : Nat} {w wr : World} {a : Option Addr} {xs : List Int} (hn : w.heap.size = n) (h : Lits w a xs) (hb : Below n w wr) : Stays n wr a xs := fun w' hf => by
  subst hn
  exact h.below (hb.trans (hf.below hb.size))
theorem own_cap {W : World} {base e k c g : Nat} {xs : List Value} (h : W.ownsRow base e 1 (.slice (some ⟨g, 0, none⟩) k c) k xs) : k ≤ c ∧ c ≤ 9223372036854775807 := by
  rcases h.2 with ⟨e', _⟩ | ⟨g', c', cur', e', _, _, h4, h5, _⟩
  · cases e'
  · cases e'
    unfold maxLen at h5
    exact ⟨h4, by omega⟩
theorem Fst.below {n ab : Nat} {cs : List (List Int)} {W0 : World} {i : Nat} {M : List Arn.It} {ids : List Nat} {ro : Option Addr} {rc : Nat} {io : Option Addr} {ic k : Nat} {W W' : World} (h : Fst n ab cs W0 i M ids ro rc io ic k W) (hb : Below W.heap.size W W') : Fst n ab cs W0 i M ids ro rc io ic k W' :=
  ⟨h.arx.below hb, own_below h.rf hb, own_below h.id hb, h.bel.trans (hb.mono h.hn), h.lst, h.len, h.nsz⟩
/-- What the last loop reads at a place. -/
structure Fin (lb lo rg ig ab q t L : Nat) (rr : Int) (a' : Option Addr) (c' : Nat) (cs : List (List Int)) (ids : List Nat) (i : Nat) (wo : World) : Prop where
  cells : ∀ X, Below wo.heap.size wo X → X.cell? ⟨rg, q, none⟩ = some (.int .i64 rr) ∧ X.cell? ⟨ig, q, none⟩ = some (.int .i64 (t : Nat)) ∧ X.cell? ⟨lb, lo + t, none⟩ = some (.slice a' L c') ∧ Below wo.heap.size wo X
  c20 : ∀ X, Below wo.heap.size wo X → Calls Try.prog 20 #[.pointer (some ⟨ab, 0, none⟩), .int .i64 rr] X fun e w' => (∃ o c, e = .returned (.slice o L c) ∧ Lits w' o (cs.getD t [])) ∧ Below wo.heap.size wo w'
  c28 : ∀ X, Below wo.heap.size wo X → ∀ o c, Lits X o (cs.getD t []) → Calls Try.prog 28 #[.slice o L c, .slice a' L c'] X fun e w' => e = .returned (.bool true) ∧ Below wo.heap.size wo w'
  c23 : ∀ X, Below wo.heap.size wo X → Calls Try.prog 23 #[.pointer (some ⟨ab, 0, none⟩), .int .i64 rr] X fun e w' => e = .returned (.int .i64 ((t : Int) * 8589934592 + 1)) ∧ Below wo.heap.size wo w'
  c24 : ∀ X, Below wo.heap.size wo X → Calls Try.prog 24 #[.pointer (some ⟨ab, 0, none⟩), .int .i64 rr] X fun e w' => e = .returned (.bool (decide (t % 2 = 0))) ∧ Below wo.heap.size wo w'
  sum : Arn.sum4 cs (ids.take (q + 1)) = Arn.sum4 cs (ids.take q) + (4 + L)
  len : L ≤ 35184372088832
  lt : t < i
theorem own_lits {base : Nat} {W : World} {o : Option Addr} {c n : Nat} {xs : List Int} (hn : xs.length = n) (h : W.ownsRow base 48 1 (.slice o n c) n (xs.map (Value.int .i32))) (hx : ∀ x ∈ xs, -2147483648 ≤ x ∧ x ≤ 2147483647) : Lits W o xs := by
  refine ⟨hx, ?_⟩
  rcases h.2 with ⟨e, h0⟩ | ⟨g, cap', cur, e, h1, h2, h3, h4, h5, h6⟩
  · left; exact List.eq_nil_of_length_eq_zero (by omega)
  · cases e
    right
    refine ⟨g, 0, rfl, lt_of_blk h2, fun j hj => ?_⟩
    rw [Nat.zero_add, h.cellAt j (by omega), List.getElem?_map, List.getElem?_eq_getElem hj, List.getD, List.getElem?_eq_getElem hj]
    rfl
theorem fin_at {n ab : Nat} {cs : List (List Int)} {w : World} {i : Nat} {M : List Arn.It} {ids : List Nat} {rg rc ig ic k lb lo : Nat} {wo : World} (h : Fst n ab cs w i M ids (some ⟨rg, 0, none⟩) rc (some ⟨ig, 0, none⟩) ic k wo) (hi : i ≤ cs.length) (hC : Cls w (some ⟨lb, lo, none⟩) cs) (hn : w.heap.size = n) {q : Nat} (hq : q < k) :
    ∃ t L rr a' c', Fin lb lo rg ig ab q t L rr a' c' cs ids i wo := by
  have hqi : q < ids.length := by rw [h.len]; exact hq
  obtain ⟨rr, hr, hf⟩ := h.lst.find h.oks hqi
  have htm : ids.getD q 0 ∈ ids := by simp [List.getD, List.getElem?_eq_getElem hqi]
  have hti := h.lst.lt _ htm
  obtain ⟨b', o', a', c', e1, hbl, hcell, hlits, hlen⟩ := hC.at (k := ids.getD q 0) (by omega)
  cases e1
  obtain ⟨v, bm, hA⟩ := h.arx
  have hri : I64 rr := by
    obtain ⟨hat, _⟩ := Arn.find_some.1 hf
    have := Arn.at_lt hA.ok hat
    have := Nat.le_trans hA.fit hA.lim
    exact ⟨by omega, by omega⟩
  have hb : ∀ X, Below wo.heap.size wo X → Below n w X := fun X hX => h.bel.trans (hX.mono h.hn)
  refine ⟨ids.getD q 0, (cs.getD (ids.getD q 0) []).length, rr, a', c', fun X hX => ⟨?_, ?_, ?_, hX⟩, fun X hX => ?_, fun X hX o c hl => ?_, fun X hX => ?_, fun X hX => ?_, ?_, hlen, hti⟩
  · rw [(own_below h.rf hX).cellAt q (by omega), List.getElem?_map, hr]; rfl
  · rw [(own_below h.id hX).cellAt q (by omega), List.getElem?_map]
    unfold nums
    rw [List.getElem?_map, List.getElem?_eq_getElem hqi, List.getD, List.getElem?_eq_getElem hqi]
    rfl
  · subst hn
    exact ((hb X hX).cell (p := ⟨lb, lo + ids.getD q 0, none⟩) hbl).trans hcell
  · refine (lits20 (hA.below hX) rr hri).mono ?_
    rintro e w' ⟨⟨v8, rfl, hv8⟩, hb8⟩
    rw [hf] at hv8
    obtain ⟨o8, c8, rfl⟩ := own_slc hv8
    exact ⟨⟨o8, c8, rfl, own_lits rfl hv8 hlits.1⟩, hX.trans (hb8.mono hX.size)⟩
  · have hl2 : Lits X a' (cs.getD (ids.getD q 0) []) := by
      subst hn
      exact hlits.below (hb X hX)
    refine (same28 o a' _ c c' (cs.getD (ids.getD q 0) []) X rfl hlen hl hl2).mono ?_
    rintro e w' ⟨rfl, hb8⟩
    exact ⟨rfl, hX.trans (hb8.mono hX.size)⟩
  · refine (id23 (hA.below hX) rr hri).mono ?_
    rintro e w' ⟨rfl, hb8⟩
    rw [hf]
    exact ⟨rfl, hX.trans (hb8.mono hX.size)⟩
  · refine (red24 (hA.below hX) rr hri).mono ?_
    rintro e w' ⟨rfl, hb8⟩
    rw [hf]
    exact ⟨rfl, hX.trans (hb8.mono hX.size)⟩
  · rw [List.take_succ_eq_append_getElem hqi, Arn.sum4_snoc]
    simp [List.getD, List.getElem?_eq_getElem hqi]
/-- What the end asks. -/
theorem fin_end {n ab : Nat} {cs : List (List Int)} {w : World} {i : Nat} {M : List Arn.It} {ids : List Nat} {ro : Option Addr} {rc : Nat} {io : Option Addr} {ic k : Nat} {wo : World} (h : Fst n ab cs w i M ids ro rc io ic k wo) :
    (∀ X, Below wo.heap.size wo X → Calls Try.prog 14 #[.pointer (some ⟨ab, 0, none⟩)] X fun e w' => e = .returned (.tuple #[.int .i64 (Arn.size M : Nat), .int .i64 (Arn.waste M : Nat)]) ∧ Below wo.heap.size wo w') ∧
    (∀ X, Below wo.heap.size wo X → Calls Try.prog 25 #[.pointer (some ⟨ab, 0, none⟩)] X fun e w' => (∃ o c, e = .returned (.slice o k c)) ∧ Below wo.heap.size wo w') ∧ Arn.size M = Arn.waste M + Arn.sum4 cs ids ∧ Arn.size M ≤ 268435456 := by
  obtain ⟨v, bm, hA⟩ := h.arx
  refine ⟨fun X hX => ?_, fun X hX => ?_, h.lst.words, Nat.le_trans hA.fit hA.lim⟩
  · refine (words14 (hA.below hX)).mono ?_
    rintro e w' ⟨rfl, hb8⟩
    exact ⟨rfl, hX.trans (hb8.mono hX.size)⟩
  · refine (refs25 (hA.below hX)).mono ?_
    rintro e w' ⟨⟨v8, rfl, hv8⟩, hb8⟩
    rw [h.lst.len, h.len] at hv8
    obtain ⟨o8, c8, rfl⟩ := own_slc hv8
    exact ⟨⟨o8, c8, rfl⟩, hX.trans (hb8.mono hX.size)⟩
theorem sum4_take (cs : List (List Int)) (ids : List Nat) (q : Nat) : Arn.sum4 cs (ids.take q) ≤ Arn.sum4 cs ids := by
  induction ids generalizing q with
  | nil => simp [Arn.sum4]
  | cons t ids ih =>
    cases q with
    | zero => simp [Arn.sum4]
    | succ q => rw [List.take_succ_cons, Arn.sum4, Arn.sum4]; have := ih q; omega
theorem sum_le {n ab : Nat} {cs : List (List Int)} {w : World} {i : Nat} {M : List Arn.It} {ids : List Nat} {ro : Option Addr} {rc : Nat} {io : Option Addr} {ic k : Nat} {wo : World} (h : Fst n ab cs w i M ids ro rc io ic k wo) (q : Nat) : Arn.sum4 cs (ids.take q) ≤ 268435456 := by
  obtain ⟨_, _, hE, hsz⟩ := fin_end h
  have := sum4_take cs ids q
  omega
theorem item_put {cs : List (List Int)} {i S : Nat} {M : List Arn.It} {ids : List Nat} (h : Arn.Lst cs i M ids) (hi : i < cs.length) (hi2 : i < 60) (hS : cs.flatten.length = S) (hS2 : S ≤ 600) (hz : (0 : Int) ∉ cs.getD i []) :
    Arn.putE M 268435456 ((i : Int) * 8589934592 + 1) (cs.getD i []) i = 0 := by
  refine putE_ok ?_ hz ?_
  · rintro (h1 | h1 | h1)
    · omega
    · omega
    · simp [Arn.small] at h1; omega
  · have h1 := h.size
    have h2 := Arn.flat_le cs (i + 1)
    have h3 := Arn.flat_len cs i hi
    omega
set_option maxRecDepth 100000 in
set_option maxHeartbeats 8000000 in
theorem law5 (a ka : Option Addr) (ln lcap kn kcap : Nat) (cs : List (List Int)) (ks : List Bool) (every : Int) (w : World) (hcs : cs.length = ln) (hln : ln ≤ 8796093022208) (hC : Cls w a cs) (hks : ks.length = kn) (hK : Bools w ka ks) (hev : I64 every) :
    Calls Try.prog 5 #[.slice a ln lcap, .slice ka kn kcap, .int .i64 every] w fun e w' => e = .returned (.bool true) ∧ Below w.heap.size w w' := by
  have HN := hid hcs
  have HC := hid hC
  have HKN := hid hks
  have HK := hid hK
  have HEV := hid hev
  have hsh : ln = 0 ∨ ∃ b off, a = some ⟨b, off, none⟩ := by
    rcases hC.2 with h | ⟨b, off, e, _⟩
    · left; rw [← hcs, h]; rfl
    · exact .inr ⟨b, off, e⟩
  have CW := hid (works12 w)
  have CWX := hid (fun X => works12 X)
  have C8 := hid (new8 268435456 w)
  clear hcs hC hks hK hev
  rcases hsh with h0 | ⟨lb, lo, rfl⟩
  · as_aux_lemma =>
      subst h0
      have hcs0 : cs = [] := List.eq_nil_of_length_eq_zero HN.out
      go_enter Try.func5, Try.ntmps5
      go_wp2
      go_loop [7, 8] (fun nv iv => nv = .int .i64 0 ∧ iv = .int .i64 0) (fun _ _ => 0)
      case atStart => exact ⟨rfl, rfl⟩
      case round =>
        obtain ⟨rfl, rfl⟩ := hrel
        go_wp2_with (fail)
        go_at_call 8
        refine C8.out.mono ?_
        rintro e w1 ⟨⟨ab, rfl, hA1⟩, hb1⟩
        rw [show Arn.limOf 268435456 = 268435456 by decide] at hA1
        have HF : Hid (Fst w.heap.size ab [] w 0 [] [] none 0 none 0 0 w1) := ⟨hA1, World.ownsRow_nil _ _ _ _, World.ownsRow_nil _ _ _ _, hb1, Arn.lst_start [], rfl, Nat.le_refl _⟩
        clear hA1 hb1 C8
        go_wp2
        go_loopw [11, 12, 13] (fun rv dv iv wx => rv = .slice none 0 0 ∧ dv = .slice none 0 0 ∧ iv = .int .i64 0 ∧ wx = w1) (fun _ _ _ _ => 0)
        case atStart => exact ⟨rfl, rfl, rfl, rfl⟩
        case round =>
          obtain ⟨rfl, rfl, rfl, hwx⟩ := hrel
          rw [hwx]
          clear hwx
          go_wp2
          go_loopw [24, 25] (fun nv qv wx => nv = .int .i64 0 ∧ qv = .int .i64 0 ∧ wx = w1) (fun _ _ _ => 0)
          case atStart => exact ⟨rfl, rfl, rfl⟩
          case round =>
            obtain ⟨rfl, rfl, hwx⟩ := hrel
            rw [hwx]
            clear hwx
            obtain ⟨C14, C25, _, _⟩ := fin_end HF.out
            have C14' := hid C14
            have C25' := hid C25
            rw [show ((Arn.size [] : Nat) : Int) = 0 from rfl, show ((Arn.waste [] : Nat) : Int) = 0 from rfl] at C14'
            have HB2 := hid HF.out.bel
            clear C14 C25
            go_wp2_with (first
              | (go_at_call 14; refine (C14'.out _ (Below.refl _ _)).mono ?_; rintro e w8 ⟨rfl, hb8⟩)
              | (go_at_call 25; refine (C25'.out _ hb8).mono ?_; rintro e w9 ⟨⟨o9, c9, rfl⟩, hb9⟩)
              | (go_at_call 12; refine (CWX.out _).mono ?_; rintro e w10 ⟨rfl, hb10⟩))
            go_ret
            exact ⟨rfl, HB2.out.trans ((hb9.mono HB2.out.size).trans (hb10.mono (Nat.le_trans HB2.out.size hb9.size)))⟩
  · go_enter Try.func5, Try.ntmps5
    go_wp2
    go_loop [7, 8] (fun nv iv => ∃ j : Nat, j ≤ ln ∧ j ≤ 61 ∧ iv = .int .i64 j ∧ nv = .int .i64 ((cs.take j).flatten.length : Nat) ∧ (cs.take j).flatten.length ≤ j * 35184372088832 ∧ Hid (∀ c ∈ cs.take j, (0 : Int) ∉ c)) (fun _ iv => ln - (intOf iv).toNat)
    case atStart => exact ⟨0, Nat.zero_le _, by decide, rfl, rfl, Nat.zero_le _, hid (fun c hc => by cases hc)⟩
    case round =>
      obtain ⟨j, hj, hj2, rfl, rfl, hjl, HZ⟩ := hrel
      by_cases hlt : j < ln ∧ j ≤ 60
      · have hlt1 : (j : Int) < ln := by omega
        have hlt2 : (j : Int) ≤ 60 := by omega
        obtain ⟨b', o', a', c', e1, _, hcell, hlits, hlen⟩ := HC.out.at (k := j) (by rw [HN.out]; exact hlt.1)
        cases e1
        have HFL := hid (Arn.flat_len cs j (by rw [HN.out]; exact hlt.1))
        have HL := hid hlits
        have HNZ := hid (Arn.nz_take cs j (by rw [HN.out]; exact hlt.1) HZ.out)
        obtain ⟨L, hL⟩ : ∃ L, (cs.getD j []).length = L := ⟨_, rfl⟩
        have HLn := hid hL
        rw [hL] at hcell hlen HFL
        generalize (cs.take j).flatten.length = S at *
        have hSL : S + L ≤ (j + 1) * 35184372088832 := by omega
        have hsa : L = 0 ∨ ∃ b off, a' = some ⟨b, off, none⟩ := by rw [← hL]; exact hlits.shape
        clear hlits hL
        go_wp2
        rcases hsa with h0 | ⟨bb, ob, rfl⟩
        · subst h0
          have HNZ' := hid (HNZ.out (by have := HLn.out; rw [List.eq_nil_of_length_eq_zero this]; simp))
          go_loop [9] (fun kv => kv = .int .i64 0) (fun _ => 0)
          case atStart => rfl
          case round =>
            obtain rfl := hrel
            go_wp2
            go_round
            case rel => exact ⟨j + 1, by omega, by omega, by go_num, by rw [HFL.out]; go_num, by rw [HFL.out]; omega, HNZ'⟩
            case measure => simp [intOf]; omega
        · go_loop [9] (fun kv => ∃ k : Nat, k ≤ L ∧ kv = .int .i64 k ∧ Hid ((0 : Int) ∉ (cs.getD j []).take k)) (fun kv => L - (intOf kv).toNat)
          case atStart => exact ⟨0, Nat.zero_le _, rfl, hid (by simp)⟩
          case round =>
            obtain ⟨k, hk, rfl, HT⟩ := hrel
            by_cases hkL : k < L
            · have hkL' : (k : Int) < L := by omega
              obtain ⟨b2, o2, e2, _, hc2, _⟩ := HL.out.at (j := k) (by rw [HLn.out]; exact hkL)
              cases e2
              by_cases hz : (cs.getD j []).getD k 0 = 0
              · rw [hz] at hc2
                clear hz
                go_wp2_with (go_at_call 12; refine CW.out.mono ?_; rintro e w4 ⟨rfl, hw4⟩)
                go_ret
                exact ⟨rfl, hw4⟩
              · have HT' := hid (Arn.any_take _ k (by rw [HLn.out]; exact hkL) HT.out hz)
                have hzb : ((cs.getD j []).getD k 0 == 0) = false := by simpa using hz
                generalize (cs.getD j []).getD k 0 = lv at *
                go_wp2
                go_round
                case rel => exact ⟨k + 1, by omega, by go_num, HT'⟩
                case measure => simp [intOf]; omega
            · have hge : ¬ (k : Int) < L := by omega
              obtain rfl : k = L := by omega
              have HT' := HT.out
              rw [List.take_of_length_le (by rw [HLn.out]; exact Nat.le_refl _)] at HT'
              have HNZ' := hid (HNZ.out HT')
              clear HT'
              go_wp2
              go_round
              case rel => exact ⟨j + 1, by omega, by omega, by go_num, by rw [HFL.out]; go_num, by rw [HFL.out]; omega, HNZ'⟩
              case measure => simp [intOf]; omega
      · by_cases h60 : 60 < ln
        · obtain rfl : j = 61 := by omega
          have h60' : (60 : Int) < ln := by omega
          go_wp2
          all_goals
            go_ret
            exact ⟨rfl, Below.refl _ _⟩
        · obtain rfl : j = ln := by omega
          have h60' : ¬ (60 : Int) < (j : Nat) := by omega
          have hnlt : ¬ (j : Int) < (j : Nat) := by omega
          have HALL := HZ.out
          rw [List.take_of_length_le (by rw [HN.out]; exact Nat.le_refl _)] at HALL hjl
          rw [List.take_of_length_le (l := cs) (by rw [HN.out]; exact Nat.le_refl _)]
          have HNZ := hid HALL
          clear HALL HZ
          by_cases h600 : 600 < cs.flatten.length
          · have h600' : (600 : Int) < (cs.flatten.length : Nat) := by omega
            generalize cs.flatten.length = S at *
            go_wp2
            go_ret
            exact ⟨rfl, Below.refl _ _⟩
          · have h600' : ¬ (600 : Int) < (cs.flatten.length : Nat) := by omega
            have HSS := hid (show cs.flatten.length ≤ 600 by omega)
            obtain ⟨S', hS'⟩ : ∃ S', cs.flatten.length = S' := ⟨_, rfl⟩
            rw [hS'] at h600 h600' hjl
            rw [hS']
            have HSE := hid hS'
            clear hS'
            go_wp2_with (fail)
            go_at_call 8
            refine C8.out.mono ?_
            rintro e w1 ⟨⟨ab, rfl, hA1⟩, hb1⟩
            rw [show Arn.limOf 268435456 = 268435456 by decide] at hA1
            have HF : Hid (Fst w.heap.size ab cs w 0 [] [] none 0 none 0 0 w1) := ⟨hA1, World.ownsRow_nil _ _ _ _, World.ownsRow_nil _ _ _ _, hb1, Arn.lst_start cs, rfl, Nat.le_refl _⟩
            have HJ60 := hid (show j ≤ 60 by omega)
            clear hA1 hb1 C8
            go_wp2
            clear hjl h600 h600' h60 h60' hj hj2 hln hlt
            go_loopw [11, 12, 13] (fun rv dv iv wr => ∃ (i k : Nat) (M : List Arn.It) (ids : List Nat) (ro io : Option Addr) (rc ic : Nat), i ≤ j ∧ k ≤ i ∧ iv = .int .i64 i ∧ rv = .slice ro k rc ∧ dv = .slice io k ic ∧ Hid (Fst w.heap.size ab cs w i M ids ro rc io ic k wr)) (fun _ _ iv _ => j - (intOf iv).toNat)
            case atStart => exact ⟨0, 0, [], [], none, none, 0, 0, Nat.zero_le _, Nat.le_refl _, rfl, rfl, rfl, HF⟩
            case round =>
              obtain ⟨i, k, M, ids, ro, io, rc, ic, hij, hki, rfl, rfl, rfl, HF2⟩ := hrel
              by_cases hlt2 : i < j
              · have hlt2' : (i : Int) < j := by omega
                obtain ⟨b', o', a', c', e1, _, hcell, hlits, hlen⟩ := HC.out.at (k := i) (by rw [HN.out]; exact hlt2)
                cases e1
                have hl1 := (HF2.out.bel.cell (p := ⟨lb, lo + i, none⟩) (cell_lt hcell)).trans hcell
                have hz0 : (0 : Int) ∉ cs.getD i [] := HNZ.out _ (getD_cls cs i (by rw [HN.out]; exact hlt2))
                have hput := item_put HF2.out.lst (by rw [HN.out]; exact hlt2) (by have := HJ60.out; omega) rfl HSS.out hz0
                have C13 := hid (put13 HF2.out.arx ((i : Int) * 8589934592 + 1) a' (cs.getD i []).length c' (cs.getD i []) (decide (i % 2 = 0)) i rfl hlen (stays_old rfl hlits HF2.out.bel))
                unfold PutOut at C13
                rw [hput, (put_ok (red := decide (i % 2 = 0)) hput).1, (put_ok (red := decide (i % 2 = 0)) hput).2, show M ++ [Arn.newIt ((i : Int) * 8589934592 + 1) (cs.getD i []) (decide (i % 2 = 0)) i] = M ++ [Arn.item cs i] from rfl] at C13
                have hred : ((i : Int) % 2 == 0) = decide (i % 2 = 0) := by
                  by_cases h2 : i % 2 = 0
                  · simp [h2]; omega
                  · simp [h2]; omega
                have hi60 : (i : Int) ≤ 60 := by have := HJ60.out; omega
                have hi0 : (0 : Int) ≤ i := by omega
                have hsl : (i : Int) * 8589934592 ≤ 515396075520 := by omega
                have hsl0 : 0 ≤ (i : Int) * 8589934592 := by omega
                have HI := hid (show i < cs.length by rw [HN.out]; exact hlt2)
                have hsM : Arn.size M ≤ 268435456 := by
                  obtain ⟨v, bm, hA⟩ := HF2.out.arx
                  exact Nat.le_trans hA.fit hA.lim
                generalize decide (i % 2 = 0) = rb at *
                generalize (cs.getD i []).length = L at *
                clear hcell hlits hput hz0
                go_wp2_with (fail)
                go_at_call 13
                refine C13.out.mono ?_
                rintro e w1 ⟨rfl, hD⟩
                obtain ⟨o1, c1, B1, o2, c2, B2, hr1, hr2, hF3⟩ := HF2.out.push HI.out (by omega) hD
                have HR1 := hid hr1
                have HR2 := hid hr2
                have HF3 := hid hF3
                clear hr1 hr2 hF3 hD C13 HF2
                generalize Arn.size M = sM at *
                obtain ⟨kb, hkb⟩ : ∃ kb, (decide (i < kn) && ks.getD i false) = kb := ⟨_, rfl⟩
                have HKB := hid hkb
                clear hkb
                go_upto_region 26 with (first | (at_builtin; refine wpList_append_run rfl (.tmp 97) (.tmp 99) 52 52 rfl rfl rfl HR1.out ?_) | (at_builtin; refine wpList_append_run rfl (.tmp 101) (.tmp 103) 59 59 rfl rfl rfl HR2.out ?_))
                go_cut [119] (fun s wc => s = .bool kb ∧ wc = B2)
                case first =>
                  by_cases hik : i < kn
                  · as_aux_lemma =>
                      have hik' : (i : Int) < kn := by omega
                      obtain ⟨b3, o3, e3, hc3⟩ := HK.out.at (k := i) (by rw [HKN.out]; exact hik)
                      subst e3
                      have hc3' := (HF3.out.bel.cell (p := ⟨b3, o3 + i, none⟩) (cell_lt hc3)).trans hc3
                      have HKB' := hid (show ks.getD i false = kb by rw [← HKB.out]; simp [hik])
                      rw [HKB'.out] at hc3'
                      clear hc3
                      cases kb
                      all_goals
                        go_wp2_with fail
                        go_meet
                        case rel => exact ⟨rfl, rfl⟩
                  · have hik' : ¬ (i : Int) < kn := by omega
                    have HKB' := hid (show false = kb by rw [← HKB.out]; simp [hik])
                    go_wp2_with fail
                    go_meet
                    case rel => exact ⟨by rw [← HKB'.out], rfl⟩
                case rest =>
                  obtain ⟨rfl, hwc⟩ := hcut
                  rw [hwc]
                  clear hwc HKB HR1 HR2
                  generalize hkk : k + 1 = kk at *
                  go_upto_if 119 with fail
                  go_cut [11, 12] (fun rv dv wc => ∃ (k2 : Nat) (M2 : List Arn.It) (ids2 : List Nat) (ro2 io2 : Option Addr) (rc2 ic2 : Nat), k2 ≤ i + 1 ∧ rv = .slice ro2 k2 rc2 ∧ dv = .slice io2 k2 ic2 ∧ Hid (Fst w.heap.size ab cs w (i + 1) M2 ids2 ro2 rc2 io2 ic2 k2 wc))
                  case first =>
                    cases kb
                    · go_wp2_with fail
                      go_meet
                      case rel => exact ⟨kk, _, _, _, _, _, _, by omega, rfl, rfl, HF3⟩
                    · as_aux_lemma =>
                        obtain ⟨rg, rcv, e5, _, _⟩ := HF3.out.rf.form (by omega)
                        injection e5 with e5a e5b e5c
                        subst e5a e5c
                        obtain ⟨ig, icv, e6, _, _⟩ := HF3.out.id.form (by omega)
                        injection e6 with e6a e6b e6c
                        subst e6a e6c
                        have C27 := hid (pick27 every kk B2 (by omega) (by omega) HEV.out)
                        have hkkp : (0 : Int) < kk := by omega
                        clear e5b e6b
                        go_wp2_with fail
                        go_at_call 27
                        refine C27.out.mono ?_
                        rintro e w2 ⟨⟨t, ht, rfl⟩, hw2⟩
                        rw [hw2]
                        clear hw2 C27
                        have hlr : (Arn.refs (M ++ [Arn.item cs i]) 0).length = kk := by rw [HF3.out.lst.len, HF3.out.len]
                        obtain ⟨r, hr⟩ : ∃ r, (Arn.refs (M ++ [Arn.item cs i]) 0)[t]? = some r := ⟨_, List.getElem?_eq_getElem (by omega)⟩
                        have hrc := HF3.out.rf.cellAt t (by omega)
                        rw [List.getElem?_map, hr, Option.map_some] at hrc
                        obtain ⟨hsome, _, _⟩ := HF3.out.lst.kill HF3.out.oks hr
                        have hri : I64 r := by
                          obtain ⟨x9, hx9⟩ := Option.isSome_iff_exists.1 hsome
                          obtain ⟨hat9, _⟩ := Arn.find_some.1 hx9
                          have := Arn.at_lt HF3.out.oks hat9
                          have hsz : Arn.size (M ++ [Arn.item cs i]) ≤ 268435456 := by
                            obtain ⟨v9, bm9, hA9⟩ := HF3.out.arx
                            exact Nat.le_trans hA9.fit hA9.lim
                          exact ⟨by omega, by omega⟩
                        have C16 := hid (kill16 HF3.out.arx r hri)
                        rw [show Arn.errR (Arn.find (M ++ [Arn.item cs i]) r) = 0 by simp [Arn.errR, hsome]] at C16
                        have ht' : (t : Int) < kk := by omega
                        have ht0 : (0 : Int) ≤ t := by omega
                        have HR := hid hr
                        clear hr hsome hri hlr
                        go_wp2_with fail
                        go_at_call 16
                        refine C16.out.mono ?_
                        rintro e w3 ⟨rfl, hD⟩
                        have HD := hid hD
                        clear hD C16 hrc
                        have hcp1 : kk ≤ c1 ∧ c1 ≤ 9223372036854775807 := own_cap HF3.out.rf
                        have hcp2 : kk ≤ c2 ∧ c2 ≤ 9223372036854775807 := own_cap HF3.out.id
                        obtain ⟨hcp1, hcp3⟩ := hcp1
                        obtain ⟨hcp2, hcp4⟩ := hcp2
                        obtain ⟨f1, hf1⟩ : ∃ f1 : Nat, (if c1 = t + 1 then 0 else t + 1) = f1 := ⟨_, rfl⟩
                        obtain ⟨f2, hf2⟩ : ∃ f2 : Nat, (if c2 = t + 1 then 0 else t + 1) = f2 := ⟨_, rfl⟩
                        obtain ⟨p1, d1, X1, p2, d2, X2, p3, d3, X3, p4, d4, X4, r1, r2, r3, r4, hF5⟩ := HF3.out.cut (by omega) ht HR.out HD.out f1 f2 (fun h => by rw [← hf1, if_neg (by omega)]) (fun h => by rw [← hf2, if_neg (by omega)])
                        have S1 := hid r1
                        have S2 := hid r2
                        have S3 := hid r3
                        have S4 := hid r4
                        have HF5 := hid hF5
                        have hkk1 : kk - 1 ≤ i + 1 := by omega
                        clear r1 r2 r3 r4 hF5 HD HR HF3
                        go_upto_region 34 with (first
                          | (at_builtin; refine wpList_append_run rfl (.tmp 131) (.tmp 134) 52 52 rfl rfl rfl S1.out ?_)
                          | (at_builtin; refine wpList_append_run rfl (.tmp 136) (.tmp 139) 59 59 rfl rfl rfl S2.out ?_))
                        clear S1 S2
                        by_cases q1 : c1 = t + 1 <;> by_cases q2 : c2 = t + 1
                        all_goals
                          first | rw [if_pos q1] at hf1 | rw [if_neg q1] at hf1
                          first | rw [if_pos q2] at hf2 | rw [if_neg q2] at hf2
                          subst hf1 hf2
                          go_wp2_with (first
                            | (at_builtin; refine wpList_append_run rfl (.tmp 141) (.tmp 145) 52 52 rfl rfl rfl S3.out ?_)
                            | (at_builtin; refine wpList_append_run rfl (.tmp 147) (.tmp 151) 59 59 rfl rfl rfl S4.out ?_))
                          go_meet
                          case rel => exact ⟨kk - 1, _, _, _, _, _, _, hkk1, rfl, rfl, HF5⟩
                  case rest =>
                    obtain ⟨k2, M2, ids2, ro2, io2, rc2, ic2, hk2, rfl, rfl, HF4⟩ := hcut
                    clear HF3
                    have C27a := hid (fun W => pick27 i 5 W (by omega) (by omega) ⟨by omega, by omega⟩)
                    have C27b := hid (fun W => pick27 every 5 W (by omega) (by omega) HEV.out)
                    go_wp2_with fail
                    go_at_call 27
                    refine (C27a.out _).mono ?_
                    rintro e w2 ⟨⟨t1, ht1, rfl⟩, hw2⟩
                    rw [hw2]
                    clear hw2 C27a
                    go_wp2_with fail
                    go_at_call 27
                    refine (C27b.out _).mono ?_
                    rintro e w2 ⟨⟨t2, ht2, rfl⟩, hw2⟩
                    rw [hw2]
                    clear hw2 C27b
                    by_cases htt : t1 = t2
                    · as_aux_lemma =>
                        subst htt
                        have C26 := hid (collect26 HF4.out.arx)
                        go_wp2_with fail
                        go_at_call 26
                        refine C26.out.mono ?_
                        rintro e w5 ⟨⟨v, rfl, hv⟩, hD⟩
                        obtain ⟨mo, mc, rfl, hC0⟩ := HF4.out.coll hD hv
                        have HC0 := hid hC0
                        clear hC0 hv hD C26 HF4
                        go_wp2
                        rcases Nat.eq_zero_or_pos k2 with hk0 | hk0
                        · subst hk0
                          go_loopw [20] (fun kv wx => kv = .int .i64 0 ∧ Hid (Cst w.heap.size ab cs w (i + 1) M2 ids2 ro2 rc2 io2 ic2 0 mo mc 0 wx)) (fun _ _ => 0)
                          case atStart => exact ⟨rfl, HC0⟩
                          case round =>
                            obtain ⟨rfl, HC1⟩ := hrel
                            have HF6 := hid HC1.out.done
                            have hAX := HF6.out.arx
                            obtain ⟨av, bm, hAA⟩ := hAX
                            have C14 := hid (words14 hAA)
                            rw [Arn.collect_waste] at C14
                            clear hAA
                            go_wp2_with (go_at_call 14; refine C14.out.mono ?_; rintro e w7 ⟨rfl, hb7⟩; have HF7 := hid (HF6.out.below hb7); clear hb7)
                            go_roundw
                            case rel => exact ⟨i + 1, 0, _, ids2, _, _, _, _, by omega, hk2, by go_num, rfl, rfl, HF7⟩
                            case measure => simp [intOf]; omega
                        · obtain ⟨rg, rcv, e5, _, _⟩ := HC0.out.rf.form hk0
                          injection e5 with e5a e5b e5c
                          subst e5a e5c
                          obtain ⟨mg, mcv, e6, _, _⟩ := HC0.out.mvs.form hk0
                          injection e6 with e6a e6b e6c
                          subst e6a e6c
                          clear e5b e6b
                          go_loopw [20] (fun kv wx => ∃ q : Nat, q ≤ k2 ∧ kv = .int .i64 q ∧ Hid (Cst w.heap.size ab cs w (i + 1) M2 ids2 (some ⟨rg, 0, none⟩) rc2 io2 ic2 k2 (some ⟨mg, 0, none⟩) mc q wx)) (fun kv _ => k2 - (intOf kv).toNat)
                          case atStart => exact ⟨0, Nat.zero_le _, rfl, HC0⟩
                          case round =>
                            obtain ⟨q, hq, rfl, HC1⟩ := hrel
                            by_cases hqk : q < k2
                            · have hqk' : (q : Int) < k2 := by omega
                              obtain ⟨wo, hwo⟩ : ∃ wo, wo = wr := ⟨wr, rfl⟩
                              subst hwo
                              go_wp2
                              go_loopw [21] (fun jv wx => ∃ j2 : Nat, j2 ≤ q ∧ jv = .int .i64 j2 ∧ Hid (Cst w.heap.size ab cs w (i + 1) M2 ids2 (some ⟨rg, 0, none⟩) rc2 io2 ic2 k2 (some ⟨mg, 0, none⟩) mc q wx)) (fun jv _ => k2 - (intOf jv).toNat)
                              case atStart => exact ⟨0, Nat.zero_le _, rfl, HC1⟩
                              case round =>
                                obtain ⟨j2, hj2q, rfl, HC2⟩ := hrel
                                have hj2k : (j2 : Int) < k2 := by omega
                                obtain ⟨hm1, hm2⟩ := HC2.out.moves (j := j2) (by omega)
                                obtain ⟨hr1, hfz⟩ := HC2.out.at hqk
                                by_cases hjq : j2 = q
                                · subst hjq
                                  have HC3 := hid ((HC2.out.below (Below.refl _ _).drew).step hqk)
                                  generalize (Arn.refs M2 0).getD j2 0 = R1 at *
                                  generalize (Arn.refs (Arn.collect M2) 0).getD j2 0 = R2 at *
                                  go_wp2
                                  go_region
                                  go_wp2
                                  go_roundw
                                  case rel => exact ⟨j2 + 1, by omega, by go_num, HC3⟩
                                  case measure => simp [intOf]; omega
                                · have hne := refs_inj HC2.out.oks (show j2 < q by omega) (by rw [HC2.out.num]; exact hqk)
                                  have HC3 := hid (HC2.out.below (Below.refl _ _).drew)
                                  have hneb : ((Arn.refs M2 0).getD j2 0 == (Arn.refs M2 0).getD q 0) = false := by simpa using hne
                                  generalize (Arn.refs M2 0).getD j2 0 = R1 at *
                                  generalize (Arn.refs M2 0).getD q 0 = R2 at *
                                  go_wp2
                                  go_region
                                  go_wp2
                                  go_roundw
                                  case rel => exact ⟨j2 + 1, by omega, by go_num, HC3⟩
                                  case measure => simp [intOf]; omega
                            · have hge2 : ¬ (q : Int) < k2 := by omega
                              obtain rfl : q = k2 := by omega
                              have HF6 := hid HC1.out.done
                              have hAX := HF6.out.arx
                              obtain ⟨av, bm, hAA⟩ := hAX
                              have C14 := hid (words14 hAA)
                              rw [Arn.collect_waste] at C14
                              clear hAA
                              go_wp2_with (go_at_call 14; refine C14.out.mono ?_; rintro e w7 ⟨rfl, hb7⟩; have HF7 := hid (HF6.out.below hb7); clear hb7)
                              go_roundw
                              case rel => exact ⟨i + 1, q, _, ids2, _, _, _, _, by omega, hk2, by go_num, rfl, rfl, HF7⟩
                              case measure => simp [intOf]; omega
                    · as_aux_lemma =>
                        have htt' : ((t1 : Int) == t2) = false := by simp; omega
                        have htt2 : ¬ (t1 : Int) = t2 := by omega
                        go_wp2
                        go_roundw
                        case rel => exact ⟨i + 1, k2, M2, ids2, ro2, io2, rc2, ic2, by omega, hk2, by go_num, rfl, rfl, HF4⟩
                        case measure => simp [intOf]; omega
              · as_aux_lemma =>
                  have hge : ¬ (i : Int) < j := by omega
                  obtain rfl : i = j := by omega
                  have hk60 : k ≤ 60 := by have := HJ60.out; omega
                  obtain ⟨wo, hwo⟩ : ∃ wo, wo = wr := ⟨wr, rfl⟩
                  subst hwo
                  go_wp2
                  have hshr : (k = 0) ∨ ∃ rg ig, ro = some ⟨rg, 0, none⟩ ∧ io = some ⟨ig, 0, none⟩ := by
                    rcases Nat.eq_zero_or_pos k with h0 | h0
                    · exact .inl h0
                    · obtain ⟨rg, _, e5, _, _⟩ := HF2.out.rf.form h0
                      obtain ⟨ig, _, e6, _, _⟩ := HF2.out.id.form h0
                      cases e5
                      cases e6
                      exact .inr ⟨rg, ig, rfl, rfl⟩
                  rcases hshr with hk0 | ⟨rg, ig, rfl, rfl⟩
                  · subst hk0
                    go_loopw [24, 25] (fun nv qv wx => nv = .int .i64 0 ∧ qv = .int .i64 0 ∧ wx = wo) (fun _ _ _ => 0)
                    case atStart => exact ⟨rfl, rfl, rfl⟩
                    case round =>
                      obtain ⟨rfl, rfl, hwx⟩ := hrel
                      rw [hwx]
                      clear hwx
                      obtain ⟨C14, C25, hE, hsz⟩ := fin_end HF2.out
                      have hids : ids = [] := List.eq_nil_of_length_eq_zero HF2.out.len
                      rw [hids, show Arn.sum4 cs [] = 0 from rfl, Nat.add_zero] at hE
                      have C14' := hid C14
                      have C25' := hid C25
                      have hsub : ((Arn.size M : Nat) : Int) - (Arn.waste M : Nat) = 0 := by omega
                      have HB2 := hid HF2.out.bel
                      clear C14 C25 hE hids
                      generalize Arn.size M = szM at *
                      generalize Arn.waste M = wsM at *
                      have hwsz : wsM ≤ szM := by omega
                      go_wp2_with (first
                        | (go_at_call 14; refine (C14'.out _ (Below.refl _ _)).mono ?_; rintro e w8 ⟨rfl, hb8⟩)
                        | (go_at_call 25; refine (C25'.out _ hb8).mono ?_; rintro e w9 ⟨⟨o9, c9, rfl⟩, hb9⟩)
                        | (go_at_call 12; refine (CWX.out _).mono ?_; rintro e w10 ⟨rfl, hb10⟩))
                      go_ret
                      exact ⟨rfl, HB2.out.trans ((hb9.mono HB2.out.size).trans (hb10.mono (Nat.le_trans HB2.out.size hb9.size)))⟩
                  · have HSB := hid (fun q => sum_le HF2.out q)
                    go_loopw [24, 25] (fun nv qv wx => ∃ q : Nat, q ≤ k ∧ nv = .int .i64 (Arn.sum4 cs (ids.take q) : Nat) ∧ qv = .int .i64 q ∧ Arn.sum4 cs (ids.take q) ≤ 268435456 ∧ Hid (Below wo.heap.size wo wx)) (fun _ qv _ => k - (intOf qv).toNat)
                    case atStart => exact ⟨0, Nat.zero_le _, rfl, rfl, by simp [Arn.sum4], hid (Below.refl _ _)⟩
                    case round =>
                      obtain ⟨q, hq, rfl, rfl, hsum, HB⟩ := hrel
                      by_cases hqk : q < k
                      · as_aux_lemma =>
                          have hqk' : (q : Int) < k := by omega
                          obtain ⟨t, L, rr, a', c', hft⟩ := fin_at HF2.out (by rw [HN.out]; exact Nat.le_refl _) HC.out rfl hqk
                          have HFT := hid hft
                          have HSX := hid (fun (X : World) (hX : Below wo.heap.size wo X) => hft.cells X hX)
                          obtain ⟨x0, x1, x2, _⟩ := HSX.out wr HB.out
                          have C20 := hid (fun (X : World) (hX : Below wo.heap.size wo X) => hft.c20 X hX)
                          have C28 := hid (fun (X : World) (hX : Below wo.heap.size wo X) o c (hl : Lits X o (cs.getD t [])) => hft.c28 X hX o c hl)
                          have C23 := hid (fun (X : World) (hX : Below wo.heap.size wo X) => hft.c23 X hX)
                          have C24 := hid (fun (X : World) (hX : Below wo.heap.size wo X) => hft.c24 X hX)
                          have HSM := hid hft.sum
                          have hL := hft.len
                          have hti := hft.lt
                          have hti2 : (t : Int) ≤ 60 := by have := HJ60.out; omega
                          have htj : (t : Int) < i := by omega
                          generalize hrb : decide (t % 2 = 0) = rb at *
                          have hred : ((t : Int) % 2 == 0) = rb := by
                            rw [← hrb]
                            by_cases h2 : t % 2 = 0
                            · simp [h2]; omega
                            · simp [h2]; omega
                          have HTM := hid (show ((t : Int).tmod 2 == 0) = rb by rw [Int.tmod_eq_emod_of_nonneg (by omega)]; exact hred)
                          have HBB := hid (show (!(rb == rb)) = false by cases rb <;> rfl)
                          generalize Arn.sum4 cs (ids.take q) = sm at *
                          clear hft hrb
                          clear HFT x0 x1
                          have ht0 : (0 : Int) ≤ t := by omega
                          have hsl : (t : Int) * 8589934592 ≤ 515396075520 := by omega
                          have hsl0 : 0 ≤ (t : Int) * 8589934592 := by omega
                          have hwr1 : IntKind.i64.wrap ((t : Int) * 8589934592) = t * 8589934592 := by rw [IntKind.wrap_i64]; omega
                          have hwr2 : IntKind.i64.wrap ((t : Int) * 8589934592 + 1) = t * 8589934592 + 1 := by rw [IntKind.wrap_i64]; omega
                          obtain ⟨x0, x1, _⟩ := HSX.out wr HB.out
                          go_upto_region 56 with fail
                          clear x0 x1 x2
                          go_region_held3 (fun X => X.cell? ⟨rg, q, none⟩ = some (.int .i64 rr) ∧ X.cell? ⟨ig, q, none⟩ = some (.int .i64 t) ∧ X.cell? ⟨lb, lo + t, none⟩ = some (.slice a' L c') ∧ Below wo.heap.size wo X)
                            (first | exact HSX.out _ HB.out.drew | exact HSX.out _ hb8 | exact HSX.out _ hb9 | exact HSX.out _ hb10 | exact HSX.out _ hb11)
                            (first
                              | (go_at_call 20; refine (C20.out _ HB.out.drew).mono ?_; rintro e w8 ⟨⟨o8, c8, rfl, hl8⟩, hb8⟩)
                              | (go_at_call 28; refine (C28.out _ hb8 _ _ hl8).mono ?_; rintro e w9 ⟨rfl, hb9⟩)
                              | (go_at_call 23; refine (C23.out _ hb9).mono ?_; rintro e w10 ⟨rfl, hb10⟩)
                              | (go_at_call 24; refine (C24.out _ hb10).mono ?_; rintro e w11 ⟨rfl, hb11⟩))
                          have HB' := hid hb11
                          clear hb8 hb9 hb10 hb11 hl8
                          have hs2 := HSB.out (q + 1)
                          rw [HSM.out] at hs2
                          rw [HTM.out, HBB.out]
                          go_wp2
                          go_roundw
                          case rel => exact ⟨q + 1, by omega, by rw [HSM.out]; go_num, by go_num, by rw [HSM.out]; exact hs2, HB'⟩
                          case measure => simp [intOf]; omega
                      · have hge2 : ¬ (q : Int) < k := by omega
                        obtain rfl : q = k := by omega
                        obtain ⟨C14, C25, hE, hsz⟩ := fin_end HF2.out
                        rw [show ids.take q = ids from List.take_of_length_le (by rw [HF2.out.len]; exact Nat.le_refl _)]
                        have C14' := hid C14
                        have C25' := hid C25
                        have hsub : ((Arn.size M : Nat) : Int) - (Arn.waste M : Nat) = (Arn.sum4 cs ids : Nat) := by omega
                        have HB2 := hid HF2.out.bel
                        clear C14 C25 hE hsum
                        generalize Arn.size M = szM at *
                        generalize Arn.waste M = wsM at *
                        generalize Arn.sum4 cs ids = sm at *
                        have hwsz : wsM ≤ szM := by omega
                        go_wp2_with (first
                          | (go_at_call 14; refine (C14'.out _ HB.out).mono ?_; rintro e w8 ⟨rfl, hb8⟩)
                          | (go_at_call 25; refine (C25'.out _ hb8).mono ?_; rintro e w9 ⟨⟨o9, c9, rfl⟩, hb9⟩)
                          | (go_at_call 12; refine (CWX.out _).mono ?_; rintro e w10 ⟨rfl, hb10⟩))
                        go_ret
                        exact ⟨rfl, HB2.out.trans ((hb9.mono HB2.out.size).trans (hb10.mono (Nat.le_trans HB2.out.size hb9.size)))⟩
end Go.Proofs.Ytblogmelmpkfhaa
