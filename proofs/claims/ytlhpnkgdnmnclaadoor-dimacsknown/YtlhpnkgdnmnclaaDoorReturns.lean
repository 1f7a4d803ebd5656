/- There and back: the walk of the statement's own function. -/
import Derived.Test.YtlhpnkgdnmnclaaDoorModel
import Derived.Test.YtlhpnkgdnmnclaaDoorSameF
namespace Go.Proofs.YtlhpnkgdnmnclaaDoor
open Go.RowKit
set_option linter.unusedVariables false

set_option maxHeartbeats 1000000 in
theorem sameModel20 (a b : Option Addr) (n ca cb : Nat) (xs : List Bool) (w : World) (hn : xs.length = n) (hN : n ≤ 1099511627776) (hx : Bools w a xs) (hy : Bools w b xs) :
    Calls Tryd.prog 20 #[.slice a n ca, .slice b n cb] w fun e w' => e = .returned (.bool true) ∧ Below w.heap.size w w' := by
  have HX := hid hx
  have HY := hid hy
  have HN := hid hn
  clear hx hy hn
  go_enter Tryd.func20, Tryd.ntmps20
  go_wp2
  go_loopw [5] (fun i wr => ∃ k : Nat, k ≤ n ∧ i = .int .i64 k ∧ Drawn w wr) (fun i _ => n - (intOf i).toNat)
  case atStart => exact ⟨0, Nat.zero_le _, rfl, Drawn.refl _⟩
  case round =>
    obtain ⟨k, hk, rfl, HD⟩ := hrel
    by_cases hlt : k < n
    · obtain ⟨b1, o1, rfl, hc1⟩ := HX.out.at (k := k) (by rw [HN.out]; exact hlt)
      obtain ⟨b2, o2, rfl, hc2⟩ := HY.out.at (k := k) (by rw [HN.out]; exact hlt)
      rw [← HD.cell] at hc1 hc2
      have hi1 : (k : Int) < (n : Int) := by omega
      generalize xs.getD k false = x at hc1 hc2
      have hh : (x != x) = false := by simp
      go_wp2
      go_quiet (fail)
      go_wp2
      go_roundw
      case rel => exact ⟨k + 1, by omega, by go_num, HD.drewN _⟩
      case measure => simp [intOf]; omega
    · go_wp2
      go_ret
      exact ⟨rfl, HD.below'⟩

/-- A row of bytes as a text. -/
theorem own_txt {W : World} {base n : Nat} {v : Value} {xs : List UInt8} (h : W.ownsRow base 5 1 v n (Lib.byteCells xs)) (hn : 0 < n) (hb : n ≤ 1099511627776) : ∃ g cap, v = .slice (some ⟨g, 0, none⟩) n cap ∧ (Dim.I xs).length = n ∧ TB g W ∧ Txt g W (some ⟨g, 0, none⟩) cap (Dim.I xs) := by
  have hl : xs.length = n := by have := h.1; simp [Lib.byteCells] at this; omega
  rcases h.2 with ⟨_, h0⟩ | ⟨g, cap, cur, rfl, h1, h2, h3, h4, h5, h6⟩
  · omega
  · refine ⟨g, cap, rfl, by rw [Dim.I_len, hl], ⟨_, _, h2⟩, ⟨?_, ?_, ⟨?_, ?_⟩, .inr ⟨0, rfl, fun i hi => ?_⟩⟩⟩
    · intro x hx
      obtain ⟨b, _, rfl⟩ := List.mem_map.1 hx
      have := b.toNat_lt
      omega
    · rw [Dim.I_len, hl]; exact h3
    · rw [Dim.I_len, hl]; exact hb
    · unfold maxLen at h4; exact h4
    · rw [Dim.I_len, hl] at hi
      rw [Nat.zero_add, row_cell h2 i, ← Array.getElem?_toList]
      have := congrArg (fun l : List Value => l[i]?) h6
      simp only [Nat.mul_one] at this
      rw [List.getElem?_take_of_lt hi] at this
      rw [this]
      simp [Lib.byteCells, Dim.I, List.getD, List.getElem?_eq_getElem (show i < xs.length by omega)]

/-- A world in which the call's own box lies. -/
def Far (w : World) (v0 v1 : Value) (W : World) : Prop := Below (w.alloc (.cells #[v0, v1] 25)).heap.size (w.alloc (.cells #[v0, v1] 25)) W
theorem Far.below {w : World} {v0 v1 : Value} {W : World} (h : Far w v0 v1 W) : Below w.heap.size w W := box_below w _ h
theorem Far.on {w : World} {v0 v1 : Value} {W W' : World} (h : Far w v0 v1 W) (hb : Below W.heap.size W W') : Far w v0 v1 W' := Below.trans h (hb.mono (Below.size h))
theorem Far.c0 {w : World} {v0 v1 : Value} {W : World} (h : Far w v0 v1 W) : W.cell? ⟨w.heap.size, 0, none⟩ = some v0 := by
  have := row_cell (World.alloc_heap_new w (.cells #[v0, v1] 25)) 0
  exact (Below.cell h (p := ⟨w.heap.size, 0, none⟩) (by simp)).trans this
theorem Far.c1 {w : World} {v0 v1 : Value} {W : World} (h : Far w v0 v1 W) : W.cell? ⟨w.heap.size, 1, none⟩ = some v1 := by
  have := row_cell (World.alloc_heap_new w (.cells #[v0, v1] 25)) 1
  exact (Below.cell h (p := ⟨w.heap.size, 1, none⟩) (by simp)).trans this
theorem Far.tab {w : World} {v0 v1 : Value} {W : World} (h : Far w v0 v1 W) (htab : Lib.TabBelow Tryd.prog w.heap.size w "internal/strconv.uint64pow10" .u64 Lib.pow10Tab) : Lib.TabBelow Tryd.prog W.heap.size W "internal/strconv.uint64pow10" .u64 Lib.pow10Tab :=
  fun w' hw => htab w' (h.below.trans (hw.mono h.below.size))
theorem valuesB_len (m : List Bool) (h : m.length ≤ 3000) : (bstr (Dim.valuesB m)).size ≤ 100000 := by
  rw [bstr_size]
  unfold Dim.valuesB
  have h1 := (Dim.pages_inv m m.length (Nat.le_refl _) (by omega)).2.2
  have hl : (Dim.valInts m).length = m.length := by simp [Dim.valInts]
  rw [List.take_of_length_le (by omega)] at h1
  rw [Dim.pages_snoc, List.length_append]
  have h2 := (Dim.putX_len (Dim.pages ([118], 0) (Dim.valInts m)).1 (Dim.pages ([118], 0) (Dim.valInts m)).2 0 (by omega) (by omega)).2
  simp only [List.length_cons, List.length_nil]
  omega
theorem printB_len (v : Int) (cs : List (List Int)) (hv0 : 0 ≤ v) (hv1 : v ≤ 1048576) (hn : cs.length ≤ 1048576) (hl : cs.flatten.length ≤ 16777216) (hb : ∀ c ∈ cs, ∀ l ∈ c, -2147483648 ≤ l ∧ l ≤ 2147483647) : (Dim.printB v cs).length ≤ 1099511627776 ∧ (Dim.printB v cs).length < 549755813888 := by
  have h1 : ∀ c : List Int, (∀ l ∈ c, -2147483648 ≤ l ∧ l ≤ 2147483647) → ((c.map Dim.litB).flatten).length ≤ 22 * c.length := by
    intro c
    induction c with
    | nil => intro _; simp
    | cons l c ih =>
      intro h
      have h1 := ih (fun x hx => h x (by simp [hx]))
      have h2 := h l (by simp)
      have h3 := Dim.litB_len l (by omega) (by omega)
      rw [List.map_cons, List.flatten_cons, List.length_append, List.length_cons]; omega
  have h2 : ∀ ds : List (List Int), (∀ c ∈ ds, ∀ l ∈ c, -2147483648 ≤ l ∧ l ≤ 2147483647) → ((ds.map Dim.clauseB).flatten).length ≤ 22 * ds.flatten.length + 2 * ds.length := by
    intro ds
    induction ds with
    | nil => intro _; simp
    | cons c ds ih =>
      intro h
      have q1 := ih (fun x hx => h x (by simp [hx]))
      have q2 := h1 c (h c (by simp))
      have q3 : (Dim.clauseB c).length = ((c.map Dim.litB).flatten).length + 2 := by unfold Dim.clauseB; rw [List.length_append]; rfl
      rw [List.map_cons, List.flatten_cons, List.length_append, List.flatten_cons, List.length_append, List.length_cons]; omega
  have h3 := h2 cs hb
  have a1 := Lib.itoa_length_le v (by omega) (by omega)
  have a2 := Lib.itoa_length_le (cs.length : Int) (by omega) (by omega)
  have h4 : (Dim.headB v cs.length).length ≤ 50 := by simp [Dim.headB]; omega
  unfold Dim.printB
  rw [List.length_append]
  omega
theorem good_bnd (v : Nat) (hv : v ≤ 1048576) (cs : List (List Int)) (hg : ∀ c ∈ cs, ∀ l ∈ c, Dim.good v l) : ∀ c ∈ cs, ∀ l ∈ c, -2147483648 ≤ l ∧ l ≤ 2147483647 := by
  intro c hc l hl
  obtain ⟨h1, h2⟩ := hg c hc l hl
  unfold Cnf.vr at h1 h2
  split at h2 <;> omega
/-- Print, then Parse, of a right formula: the contract of the second call behind the first. -/
theorem parse_back (v : Nat) (cs : List (List Int)) (hv : v ≤ 1048576) (hn : cs.length ≤ 1048576) (hl : cs.flatten.length ≤ 16777216) (hg : ∀ c ∈ cs, ∀ l ∈ c, Dim.good v l) (W : World) (base : Nat) (val : Value)
    (hown : W.ownsRow base 5 1 val (Dim.printB v cs).length (Lib.byteCells (Dim.printB v cs))) :
    Calls Tryd.prog 9 #[val] W fun e w' => ∃ a cap, e = .returned (.tuple #[.agg #[.int .i64 v, .slice a cs.length cap], .int .i64 0, .int .i64 0]) ∧ Cls w' a cs ∧ Below W.heap.size W w' := by
  have hL := printB_len v cs (by omega) (by omega) hn hl (good_bnd v hv cs hg)
  obtain ⟨g, cap, rfl, h1, h2, h3⟩ := own_txt hown (printB_pos v cs) hL.1
  have := parse9 g (some ⟨g, 0, none⟩) (Dim.printB v cs).length cap (Dim.I (Dim.printB v cs)) W h2 h1 h3 hL.2
  rw [Dim.parse_print v cs hv hn hl hg] at this
  exact this

set_option maxRecDepth 100000 in
set_option maxHeartbeats 16000000 in
theorem law6 (vars : Int) (a am : Option Addr) (n cap nm capm : Nat) (cs : List (List Int)) (S : ByteArray) (m : List Bool) (w : World) (hn : cs.length = n) (hN : n ≤ 8796093022208) (hc : Cls w a cs) (hnm : m.length = nm) (hm : Bools w am m)
    (htab : Lib.TabBelow Tryd.prog w.heap.size w "internal/strconv.uint64pow10" .u64 Lib.pow10Tab) :
    Calls Tryd.prog 6 #[.agg #[.int .i64 vars, .slice a n cap], .string S, .slice am nm capm] w fun e w' => e = .returned (.bool true) ∧ Below w.heap.size w w' := by
  have C13 := hid (size13 vars a n cap cs (w.alloc (.cells #[.int .i64 vars, .slice a n cap] 25)) hn hN (hc.below (below_box _ _)))
  have HC := hid hc
  have HN := hid hn
  have HM := hid hm
  have HNM := hid hnm
  have HT := hid htab
  clear hc hn hm hnm htab hN
  by_cases h12 : (3000 : Int) < S.size
  · clear HC HN HM HNM HT
    go_enter Tryd.func6, Tryd.ntmps6
    go_wp2_with (go_at_call 13; refine C13.out.mono ?_; clear C13; rintro e W2 ⟨s, rfl, hs, hb⟩; have far := hid (show Far w (.int .i64 vars) (.slice a n cap) W2 from hb); clear hs hb)
    all_goals
      go_ret
      exact ⟨rfl, far.out.below⟩
  by_cases h19 : (3000 : Int) < nm
  · clear HC HN HM HNM HT
    go_enter Tryd.func6, Tryd.ntmps6
    go_wp2_with (go_at_call 13; refine C13.out.mono ?_; clear C13; rintro e W2 ⟨s, rfl, hs, hb⟩; have far := hid (show Far w (.int .i64 vars) (.slice a n cap) W2 from hb); clear hs hb)
    all_goals
      go_ret
      exact ⟨rfl, far.out.below⟩
  have hVS : (bstr (Dim.valuesB m)).size ≤ 100000 := valuesB_len m (by rw [HNM.out]; omega)
  have HVS := hid hVS
  have hS3 : S.size ≤ 3000 := by omega
  have hm3 : nm ≤ 3000 := by omega
  clear hVS
  obtain ⟨A, hA⟩ : ∃ A, Dim.parse (Dim.ints S) = A := ⟨_, rfl⟩
  have hfit := Dim.parse_fit (Dim.ints S)
  have hso := Dim.parse_sound (Dim.ints S)
  have CP := hid (fun (W : World) => parse_str S W (by omega))
  rw [hA] at hfit hso CP
  clear hA
  obtain ⟨er, at_, vr, cs2⟩ := A
  simp only at hfit hso CP
  have HFIT := hid hfit
  have HSO := hid hso
  clear hfit hso
  by_cases hr : Cnf.right vars cs = 0
  · have hrz := Cnf.right_zero vars cs hr
    have HR := hid hrz
    obtain ⟨u, hu⟩ : ∃ u : Nat, (u : Int) = vars := ⟨vars.toNat, by omega⟩
    have HU2 := hid hu
    have HU := hid (show u ≤ 1048576 ∧ ∀ c ∈ cs, ∀ l ∈ c, Dim.good u l from ⟨by omega, fun c hc l hl => by have := Dim.scan_all _ _ _ hrz.2.2.2.2 l (List.mem_flatten.2 ⟨c, hc, hl⟩); unfold Dim.good; omega⟩)
    clear hr hrz hu
    by_cases he : er = 0
    · have HG := hid (HSO.out.1 he)
      have HG3 := hid (Dim.right_good vr cs2 HG.out.1 HFIT.out.1 HFIT.out.2 HG.out.2)
      have HG2 := hid (Cnf.right_zero vr cs2 HG3.out).2.2.2.2
      have he1 : ((er : Int) != 0) = false := by rw [he]; rfl
      replace he := hid he
      go_enter Tryd.func6, Tryd.ntmps6
      go_wp2_with (first
        | (go_at_call 13; refine C13.out.mono ?_; clear C13; rintro e W2 ⟨s, rfl, hs, hb2⟩; clear hs
           have far2 : Far w (.int .i64 vars) (.slice a n cap) W2 := hb2
           clear hb2
           have x20 := far2.c0
           have x21 := far2.c1
           have C14 := hid (print14 vars a n cap cs W2 HN.out HR.out.1 HR.out.2.1 (by have := HR.out.2.2.1; rw [HN.out] at this; exact this) HR.out.2.2.2.1 (HC.out.below far2.below) HR.out.2.2.2.2 (far2.tab HT.out))
           replace far2 := hid far2)
        | (go_at_call 14; refine C14.out.mono ?_; clear C14; rintro e W3 ⟨v, rfl, hown, hb3⟩
           have far3 := far2.out.on hb3
           have CB := hid (parse_back u cs HU.out.1 HR.out.2.2.1 HR.out.2.2.2.1 HU.out.2 W3 W2.heap.size v (by rw [HU2.out]; exact hown))
           rw [HN.out, HU2.out] at CB
           clear hown hb3 x20 x21
           replace far3 := hid far3)
        | (go_at_call 9; refine CB.out.mono ?_; clear CB; rintro e W4 ⟨a4, cap4, rfl, hcl4, hb4⟩
           have far4 := (far3.out.on hb4).on (below_box W4 (.cells #[.int .i64 vars, .slice a4 n cap4] 25))
           have x40 := far4.c0
           have x41 := far4.c1
           have C11 := hid (sameFormula11 vars a a4 n cap cap4 cs (W4.alloc (.cells #[.int .i64 vars, .slice a4 n cap4] 25)) HN.out (by have := HR.out.2.2.1; rw [HN.out] at this; omega) (HC.out.below far4.below) (hcl4.below (below_box _ _)) (fun c hc => by have := Dim.mem_flat_le cs c hc; have := HR.out.2.2.2.1; omega))
           clear hcl4 hb4
           replace far4 := hid far4)
        | (go_at_call 11; refine C11.out.mono ?_; clear C11; rintro e W5 ⟨rfl, hb5⟩
           have far5 := far4.out.on hb5
           have cvt := Lib.run_convert_string_bytes (P := Tryd.prog) W5 9 22 5 S Tryd.underlying9 Tryd.underlying22 Tryd.underlying5
           have C9 := hid (CP.out W5)
           clear hb5 x40 x41 CP
           replace far5 := hid far5)
        | (go_at_call 9; refine C9.out.mono ?_; clear C9; rintro e W6 ⟨a6, cap6, rfl, hcl6, hb6⟩
           clear cvt
           have hw6 := below_box W6 (.cells #[.int .i64 vr, .slice a6 cs2.length cap6] 25)
           have far6 := (far5.out.on hb6).on hw6
           have hbx := World.alloc_heap_new W6 (.cells #[.int .i64 vr, .slice a6 cs2.length cap6] 25)
           have HBX := hid (fun (W : World) (h : Below (W6.alloc (.cells #[.int .i64 vr, .slice a6 cs2.length cap6] 25)).heap.size (W6.alloc (.cells #[.int .i64 vr, .slice a6 cs2.length cap6] 25)) W) => And.intro ((h.cell (p := ⟨W6.heap.size, 0, none⟩) (by simp)).trans (row_cell hbx 0)) ((h.cell (p := ⟨W6.heap.size, 1, none⟩) (by simp)).trans (row_cell hbx 1)))
           have HC6 := hid (hcl6.below hw6)
           have C14 := hid (print14 vr a6 cs2.length cap6 cs2 (W6.alloc (.cells #[.int .i64 vr, .slice a6 cs2.length cap6] 25)) rfl (by omega) (by have := HG.out.1; omega) HFIT.out.1 HFIT.out.2 HC6.out HG2.out (far6.tab HT.out))
           clear hcl6 hb6 hbx hw6
           replace far6 := hid far6)
        | (go_at_call 14; refine C14.out.mono ?_; clear C14; rintro e W7 ⟨v7, rfl, hown7, hb7⟩
           have far7 := far6.out.on hb7
           have CB := hid (parse_back vr cs2 HG.out.1 HFIT.out.1 HFIT.out.2 HG.out.2 W7 _ v7 hown7)
           have HB7 := hid hb7
           clear hown7 hb7
           replace far7 := hid far7)
        | (go_at_call 9; refine CB.out.mono ?_; clear CB; rintro e W8 ⟨a8, cap8, rfl, hcl8, hb8⟩
           have hw8 := below_box W8 (.cells #[.int .i64 vr, .slice a8 cs2.length cap8] 25)
           have hB8 := HB7.out.trans ((hb8.trans (hw8.mono hb8.size)).mono HB7.out.size)
           have far8 := (far7.out.on hb8).on hw8
           have y0 := (HBX.out _ hB8).1
           have y1 := (HBX.out _ hB8).2
           simp only [List.getElem?_toArray, List.getElem?_cons_zero, List.getElem?_cons_succ] at y0 y1
           have C21 := hid (right21 vr a6 cs2.length cap6 cs2 (W8.alloc (.cells #[.int .i64 vr, .slice a8 cs2.length cap8] 25)) rfl (HC6.out.below hB8))
           rw [HG3.out] at C21
           have hbx8 := World.alloc_heap_new W8 (.cells #[.int .i64 vr, .slice a8 cs2.length cap8] 25)
           have HBX8 := hid (fun (W : World) (h : Below (W8.alloc (.cells #[.int .i64 vr, .slice a8 cs2.length cap8] 25)).heap.size (W8.alloc (.cells #[.int .i64 vr, .slice a8 cs2.length cap8] 25)) W) => And.intro ((h.cell (p := ⟨W8.heap.size, 0, none⟩) (by simp)).trans (row_cell hbx8 0)) ((h.cell (p := ⟨W8.heap.size, 1, none⟩) (by simp)).trans (row_cell hbx8 1)))
           have HC8 := hid (hcl8.below hw8)
           have HB8 := hid hB8
           clear hcl8 hb8 hw8 hB8 hbx8
           replace far8 := hid far8)
        | (go_at_call 21; refine C21.out.mono ?_; clear C21; rintro e W9 ⟨rfl, hb9⟩
           have far9 := far8.out.on hb9
           have hB9 := HB8.out.trans (hb9.mono HB8.out.size)
           have z0 := (HBX.out _ hB9).1
           have z1 := (HBX.out _ hB9).2
           have z2 := (HBX8.out _ hb9).1
           have z3 := (HBX8.out _ hb9).2
           simp only [List.getElem?_toArray, List.getElem?_cons_zero, List.getElem?_cons_succ] at z0 z1 z2 z3
           have C11 := hid (sameFormula11 vr a6 a8 cs2.length cap6 cap8 cs2 W9 rfl (by have := HFIT.out.1; omega) (HC6.out.below hB9) (HC8.out.below hb9) (fun c hc => by have := Dim.mem_flat_le cs2 c hc; have := HFIT.out.2; omega))
           clear hb9 hB9 y0 y1
           replace far9 := hid far9)
        | (go_at_call 11; refine C11.out.mono ?_; clear C11; rintro e W10 ⟨rfl, hb10⟩
           have far10 := far9.out.on hb10
           have C16 := hid (values16 am nm capm m W10 HNM.out (by omega) (HM.out.below far10.below) (far10.tab HT.out))
           rw [show (⟨(Dim.valuesB m).toArray⟩ : ByteArray) = bstr (Dim.valuesB m) from rfl] at C16
           clear hb10 z0 z1 z2 z3
           replace far10 := hid far10)
        | (go_at_call 16; refine C16.out.mono ?_; clear C16; rintro e W11 ⟨rfl, hb11⟩
           have far11 := far10.out.on hb11
           have C18 := hid (model18 (bstr (Dim.valuesB m)) nm W11 HVS.out (by omega) (far11.tab HT.out))
           rw [ints_bstr, ← HNM.out, Dim.rd_values, HNM.out] at C18
           generalize bstr (Dim.valuesB m) = VS at C18
           clear hb11
           replace far11 := hid far11)
        | (go_at_call 18; refine C18.out.mono ?_; clear C18; rintro e W12 ⟨hor, hb12⟩
           obtain ⟨_, _, a12, cap12, rfl, hb12b⟩ := hor.resolve_right (fun h => h.1 (by simp))
           have far12 := far11.out.on hb12
           have C20 := hid (sameModel20 a12 am nm cap12 capm m W12 HNM.out (by omega) hb12b (HM.out.below far12.below))
           clear hb12 hb12b hor
           replace far12 := hid far12)
        | (go_at_call 20; refine C20.out.mono ?_; clear C20; rintro e W13 ⟨rfl, hb13⟩
           have far13 := far12.out.on hb13
           have C12 := hid (works12 W13 (far13.tab HT.out))
           clear hb13
           replace far13 := hid far13)
        | (go_at_call 12; refine C12.out.mono ?_; clear C12; rintro e W14 ⟨rfl, hb14⟩
           have far14 := hid (far13.out.on hb14)
           clear hb14))
      all_goals
        go_ret
        first | exact ⟨rfl, far14.out.below⟩ | exact ⟨rfl, far2.out.below⟩
    · obtain ⟨g1, g2, g3⟩ := HSO.out.2 he
      subst g2 g3
      have he0 : ¬ (er : Int) = 0 := by omega
      have g1' : ¬ (at_ : Int) < 1 := by omega
      clear g1
      go_enter Tryd.func6, Tryd.ntmps6
      go_wp2_with (first
        | (go_at_call 13; refine C13.out.mono ?_; clear C13; rintro e W2 ⟨s, rfl, hs, hb2⟩; clear hs
           have far2 : Far w (.int .i64 vars) (.slice a n cap) W2 := hb2
           clear hb2
           have x20 := far2.c0
           have x21 := far2.c1
           have C14 := hid (print14 vars a n cap cs W2 HN.out HR.out.1 HR.out.2.1 (by have := HR.out.2.2.1; rw [HN.out] at this; exact this) HR.out.2.2.2.1 (HC.out.below far2.below) HR.out.2.2.2.2 (far2.tab HT.out))
           replace far2 := hid far2)
        | (go_at_call 14; refine C14.out.mono ?_; clear C14; rintro e W3 ⟨v, rfl, hown, hb3⟩
           have far3 := far2.out.on hb3
           have CB := hid (parse_back u cs HU.out.1 HR.out.2.2.1 HR.out.2.2.2.1 HU.out.2 W3 W2.heap.size v (by rw [HU2.out]; exact hown))
           rw [HN.out, HU2.out] at CB
           clear hown hb3 x20 x21
           replace far3 := hid far3)
        | (go_at_call 9; refine CB.out.mono ?_; clear CB; rintro e W4 ⟨a4, cap4, rfl, hcl4, hb4⟩
           have far4 := (far3.out.on hb4).on (below_box W4 (.cells #[.int .i64 vars, .slice a4 n cap4] 25))
           have x40 := far4.c0
           have x41 := far4.c1
           have C11 := hid (sameFormula11 vars a a4 n cap cap4 cs (W4.alloc (.cells #[.int .i64 vars, .slice a4 n cap4] 25)) HN.out (by have := HR.out.2.2.1; rw [HN.out] at this; omega) (HC.out.below far4.below) (hcl4.below (below_box _ _)) (fun c hc => by have := Dim.mem_flat_le cs c hc; have := HR.out.2.2.2.1; omega))
           clear hcl4 hb4
           replace far4 := hid far4)
        | (go_at_call 11; refine C11.out.mono ?_; clear C11; rintro e W5 ⟨rfl, hb5⟩
           have far5 := far4.out.on hb5
           have cvt := Lib.run_convert_string_bytes (P := Tryd.prog) W5 9 22 5 S Tryd.underlying9 Tryd.underlying22 Tryd.underlying5
           have C9 := hid (CP.out W5)
           clear hb5 x40 x41 CP
           replace far5 := hid far5)
        | (go_at_call 9; refine C9.out.mono ?_; clear C9; rintro e W6 ⟨a6, cap6, rfl, hcl6, hb6⟩
           clear cvt hcl6
           have hw6 := below_box W6 (.cells #[.int .i64 0, .slice a6 0 cap6] 25)
           have far10 := (far5.out.on hb6).on hw6
           have C16 := hid (values16 am nm capm m (W6.alloc (.cells #[.int .i64 0, .slice a6 0 cap6] 25)) HNM.out (by omega) (HM.out.below far10.below) (far10.tab HT.out))
           rw [show (⟨(Dim.valuesB m).toArray⟩ : ByteArray) = bstr (Dim.valuesB m) from rfl] at C16
           clear hb6 hw6
           replace far10 := hid far10)
        | (go_at_call 16; refine C16.out.mono ?_; clear C16; rintro e W11 ⟨rfl, hb11⟩
           have far11 := far10.out.on hb11
           have C18 := hid (model18 (bstr (Dim.valuesB m)) nm W11 HVS.out (by omega) (far11.tab HT.out))
           rw [ints_bstr, ← HNM.out, Dim.rd_values, HNM.out] at C18
           generalize bstr (Dim.valuesB m) = VS at C18
           clear hb11
           replace far11 := hid far11)
        | (go_at_call 18; refine C18.out.mono ?_; clear C18; rintro e W12 ⟨hor, hb12⟩
           obtain ⟨_, _, a12, cap12, rfl, hb12b⟩ := hor.resolve_right (fun h => h.1 (by simp))
           have far12 := far11.out.on hb12
           have C20 := hid (sameModel20 a12 am nm cap12 capm m W12 HNM.out (by omega) hb12b (HM.out.below far12.below))
           clear hb12 hb12b hor
           replace far12 := hid far12)
        | (go_at_call 20; refine C20.out.mono ?_; clear C20; rintro e W13 ⟨rfl, hb13⟩
           have far13 := far12.out.on hb13
           have C12 := hid (works12 W13 (far13.tab HT.out))
           clear hb13
           replace far13 := hid far13)
        | (go_at_call 12; refine C12.out.mono ?_; clear C12; rintro e W14 ⟨rfl, hb14⟩
           have far14 := hid (far13.out.on hb14)
           clear hb14))
      all_goals
        go_ret
        first | exact ⟨rfl, far14.out.below⟩ | exact ⟨rfl, far2.out.below⟩
  · have HR := hid hr
    clear hr
    by_cases he : er = 0
    · have HG := hid (HSO.out.1 he)
      have HG3 := hid (Dim.right_good vr cs2 HG.out.1 HFIT.out.1 HFIT.out.2 HG.out.2)
      have HG2 := hid (Cnf.right_zero vr cs2 HG3.out).2.2.2.2
      have he1 : ((er : Int) != 0) = false := by rw [he]; rfl
      replace he := hid he
      go_enter Tryd.func6, Tryd.ntmps6
      go_wp2_with (first
        | (go_at_call 13; refine C13.out.mono ?_; clear C13; rintro e W2 ⟨s, rfl, hs, hb2⟩; clear hs
           have far2 : Far w (.int .i64 vars) (.slice a n cap) W2 := hb2
           clear hb2
           have x20 := far2.c0
           have x21 := far2.c1
           have C14 := hid (print14_err vars a n cap cs W2 HN.out (HC.out.below far2.below) HR.out)
           generalize Cnf.right vars cs = r at C14 HR
           have hrn := HR.out
           replace far2 := hid far2)
        | (go_at_call 14; refine C14.out.mono ?_; clear C14; rintro e W5 ⟨rfl, hb5⟩
           have far5 := far2.out.on hb5
           have cvt := Lib.run_convert_string_bytes (P := Tryd.prog) W5 9 22 5 S Tryd.underlying9 Tryd.underlying22 Tryd.underlying5
           have C9 := hid (CP.out W5)
           clear hb5 x20 x21 CP
           replace far5 := hid far5)
        | (go_at_call 9; refine C9.out.mono ?_; clear C9; rintro e W6 ⟨a6, cap6, rfl, hcl6, hb6⟩
           clear cvt
           have hw6 := below_box W6 (.cells #[.int .i64 vr, .slice a6 cs2.length cap6] 25)
           have far6 := (far5.out.on hb6).on hw6
           have hbx := World.alloc_heap_new W6 (.cells #[.int .i64 vr, .slice a6 cs2.length cap6] 25)
           have HBX := hid (fun (W : World) (h : Below (W6.alloc (.cells #[.int .i64 vr, .slice a6 cs2.length cap6] 25)).heap.size (W6.alloc (.cells #[.int .i64 vr, .slice a6 cs2.length cap6] 25)) W) => And.intro ((h.cell (p := ⟨W6.heap.size, 0, none⟩) (by simp)).trans (row_cell hbx 0)) ((h.cell (p := ⟨W6.heap.size, 1, none⟩) (by simp)).trans (row_cell hbx 1)))
           have HC6 := hid (hcl6.below hw6)
           have C14 := hid (print14 vr a6 cs2.length cap6 cs2 (W6.alloc (.cells #[.int .i64 vr, .slice a6 cs2.length cap6] 25)) rfl (by omega) (by have := HG.out.1; omega) HFIT.out.1 HFIT.out.2 HC6.out HG2.out (far6.tab HT.out))
           clear hcl6 hb6 hbx hw6
           replace far6 := hid far6)
        | (go_at_call 14; refine C14.out.mono ?_; clear C14; rintro e W7 ⟨v7, rfl, hown7, hb7⟩
           have far7 := far6.out.on hb7
           have CB := hid (parse_back vr cs2 HG.out.1 HFIT.out.1 HFIT.out.2 HG.out.2 W7 _ v7 hown7)
           have HB7 := hid hb7
           clear hown7 hb7
           replace far7 := hid far7)
        | (go_at_call 9; refine CB.out.mono ?_; clear CB; rintro e W8 ⟨a8, cap8, rfl, hcl8, hb8⟩
           have hw8 := below_box W8 (.cells #[.int .i64 vr, .slice a8 cs2.length cap8] 25)
           have hB8 := HB7.out.trans ((hb8.trans (hw8.mono hb8.size)).mono HB7.out.size)
           have far8 := (far7.out.on hb8).on hw8
           have y0 := (HBX.out _ hB8).1
           have y1 := (HBX.out _ hB8).2
           simp only [List.getElem?_toArray, List.getElem?_cons_zero, List.getElem?_cons_succ] at y0 y1
           have C21 := hid (right21 vr a6 cs2.length cap6 cs2 (W8.alloc (.cells #[.int .i64 vr, .slice a8 cs2.length cap8] 25)) rfl (HC6.out.below hB8))
           rw [HG3.out] at C21
           have hbx8 := World.alloc_heap_new W8 (.cells #[.int .i64 vr, .slice a8 cs2.length cap8] 25)
           have HBX8 := hid (fun (W : World) (h : Below (W8.alloc (.cells #[.int .i64 vr, .slice a8 cs2.length cap8] 25)).heap.size (W8.alloc (.cells #[.int .i64 vr, .slice a8 cs2.length cap8] 25)) W) => And.intro ((h.cell (p := ⟨W8.heap.size, 0, none⟩) (by simp)).trans (row_cell hbx8 0)) ((h.cell (p := ⟨W8.heap.size, 1, none⟩) (by simp)).trans (row_cell hbx8 1)))
           have HC8 := hid (hcl8.below hw8)
           have HB8 := hid hB8
           clear hcl8 hb8 hw8 hB8 hbx8
           replace far8 := hid far8)
        | (go_at_call 21; refine C21.out.mono ?_; clear C21; rintro e W9 ⟨rfl, hb9⟩
           have far9 := far8.out.on hb9
           have hB9 := HB8.out.trans (hb9.mono HB8.out.size)
           have z0 := (HBX.out _ hB9).1
           have z1 := (HBX.out _ hB9).2
           have z2 := (HBX8.out _ hb9).1
           have z3 := (HBX8.out _ hb9).2
           simp only [List.getElem?_toArray, List.getElem?_cons_zero, List.getElem?_cons_succ] at z0 z1 z2 z3
           have C11 := hid (sameFormula11 vr a6 a8 cs2.length cap6 cap8 cs2 W9 rfl (by have := HFIT.out.1; omega) (HC6.out.below hB9) (HC8.out.below hb9) (fun c hc => by have := Dim.mem_flat_le cs2 c hc; have := HFIT.out.2; omega))
           clear hb9 hB9 y0 y1
           replace far9 := hid far9)
        | (go_at_call 11; refine C11.out.mono ?_; clear C11; rintro e W10 ⟨rfl, hb10⟩
           have far10 := far9.out.on hb10
           have C16 := hid (values16 am nm capm m W10 HNM.out (by omega) (HM.out.below far10.below) (far10.tab HT.out))
           rw [show (⟨(Dim.valuesB m).toArray⟩ : ByteArray) = bstr (Dim.valuesB m) from rfl] at C16
           clear hb10 z0 z1 z2 z3
           replace far10 := hid far10)
        | (go_at_call 16; refine C16.out.mono ?_; clear C16; rintro e W11 ⟨rfl, hb11⟩
           have far11 := far10.out.on hb11
           have C18 := hid (model18 (bstr (Dim.valuesB m)) nm W11 HVS.out (by omega) (far11.tab HT.out))
           rw [ints_bstr, ← HNM.out, Dim.rd_values, HNM.out] at C18
           generalize bstr (Dim.valuesB m) = VS at C18
           clear hb11
           replace far11 := hid far11)
        | (go_at_call 18; refine C18.out.mono ?_; clear C18; rintro e W12 ⟨hor, hb12⟩
           obtain ⟨_, _, a12, cap12, rfl, hb12b⟩ := hor.resolve_right (fun h => h.1 (by simp))
           have far12 := far11.out.on hb12
           have C20 := hid (sameModel20 a12 am nm cap12 capm m W12 HNM.out (by omega) hb12b (HM.out.below far12.below))
           clear hb12 hb12b hor
           replace far12 := hid far12)
        | (go_at_call 20; refine C20.out.mono ?_; clear C20; rintro e W13 ⟨rfl, hb13⟩
           have far13 := far12.out.on hb13
           have C12 := hid (works12 W13 (far13.tab HT.out))
           clear hb13
           replace far13 := hid far13)
        | (go_at_call 12; refine C12.out.mono ?_; clear C12; rintro e W14 ⟨rfl, hb14⟩
           have far14 := hid (far13.out.on hb14)
           clear hb14))
      all_goals
        go_ret
        first | exact ⟨rfl, far14.out.below⟩ | exact ⟨rfl, far2.out.below⟩
    · obtain ⟨g1, g2, g3⟩ := HSO.out.2 he
      subst g2 g3
      have he0 : ¬ (er : Int) = 0 := by omega
      have g1' : ¬ (at_ : Int) < 1 := by omega
      clear g1
      go_enter Tryd.func6, Tryd.ntmps6
      go_wp2_with (first
        | (go_at_call 13; refine C13.out.mono ?_; clear C13; rintro e W2 ⟨s, rfl, hs, hb2⟩; clear hs
           have far2 : Far w (.int .i64 vars) (.slice a n cap) W2 := hb2
           clear hb2
           have x20 := far2.c0
           have x21 := far2.c1
           have C14 := hid (print14_err vars a n cap cs W2 HN.out (HC.out.below far2.below) HR.out)
           generalize Cnf.right vars cs = r at C14 HR
           have hrn := HR.out
           replace far2 := hid far2)
        | (go_at_call 14; refine C14.out.mono ?_; clear C14; rintro e W5 ⟨rfl, hb5⟩
           have far5 := far2.out.on hb5
           have cvt := Lib.run_convert_string_bytes (P := Tryd.prog) W5 9 22 5 S Tryd.underlying9 Tryd.underlying22 Tryd.underlying5
           have C9 := hid (CP.out W5)
           clear hb5 x20 x21 CP
           replace far5 := hid far5)
        | (go_at_call 9; refine C9.out.mono ?_; clear C9; rintro e W6 ⟨a6, cap6, rfl, hcl6, hb6⟩
           clear cvt hcl6
           have hw6 := below_box W6 (.cells #[.int .i64 0, .slice a6 0 cap6] 25)
           have far10 := (far5.out.on hb6).on hw6
           have C16 := hid (values16 am nm capm m (W6.alloc (.cells #[.int .i64 0, .slice a6 0 cap6] 25)) HNM.out (by omega) (HM.out.below far10.below) (far10.tab HT.out))
           rw [show (⟨(Dim.valuesB m).toArray⟩ : ByteArray) = bstr (Dim.valuesB m) from rfl] at C16
           clear hb6 hw6
           replace far10 := hid far10)
        | (go_at_call 16; refine C16.out.mono ?_; clear C16; rintro e W11 ⟨rfl, hb11⟩
           have far11 := far10.out.on hb11
           have C18 := hid (model18 (bstr (Dim.valuesB m)) nm W11 HVS.out (by omega) (far11.tab HT.out))
           rw [ints_bstr, ← HNM.out, Dim.rd_values, HNM.out] at C18
           generalize bstr (Dim.valuesB m) = VS at C18
           clear hb11
           replace far11 := hid far11)
        | (go_at_call 18; refine C18.out.mono ?_; clear C18; rintro e W12 ⟨hor, hb12⟩
           obtain ⟨_, _, a12, cap12, rfl, hb12b⟩ := hor.resolve_right (fun h => h.1 (by simp))
           have far12 := far11.out.on hb12
           have C20 := hid (sameModel20 a12 am nm cap12 capm m W12 HNM.out (by omega) hb12b (HM.out.below far12.below))
           clear hb12 hb12b hor
           replace far12 := hid far12)
        | (go_at_call 20; refine C20.out.mono ?_; clear C20; rintro e W13 ⟨rfl, hb13⟩
           have far13 := far12.out.on hb13
           have C12 := hid (works12 W13 (far13.tab HT.out))
           clear hb13
           replace far13 := hid far13)
        | (go_at_call 12; refine C12.out.mono ?_; clear C12; rintro e W14 ⟨rfl, hb14⟩
           have far14 := hid (far13.out.on hb14)
           clear hb14))
      all_goals
        go_ret
        first | exact ⟨rfl, far14.out.below⟩ | exact ⟨rfl, far2.out.below⟩
end Go.Proofs.YtlhpnkgdnmnclaaDoor
