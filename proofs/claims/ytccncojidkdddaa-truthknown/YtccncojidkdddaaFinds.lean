/- The statement on Find and Count, as a call. -/
import Derived.Test.YtccncojidkdddaaWorks
namespace Go.Proofs.Ytccncojidkdddaa
open Go.RowKit Go.Lib Go.Sort Go.Shelf
set_option linter.unusedVariables false
set_option linter.unusedSimpArgs false

theorem sameModel_len {vars : Int} {cs : List (List Int)} {bs : List Bool} {ok : Bool} {er : Int} (h : Tru.FW vars cs bs ok er) : bs.length ≤ 16 := by
  cases h with
  | err _ => simp
  | found u k hv ht hk hs hf =>
    obtain ⟨u', hu', h16, _⟩ := Tru.taken_zero vars cs ht
    rw [Tru.model_len]; omega
  | none _ _ _ _ => simp

set_option maxRecDepth 100000 in
set_option maxHeartbeats 8000000 in
theorem law3 (vars : Int) (a : Option Addr) (n cap : Nat) (cs : List (List Int)) (w : World) (hn : cs.length = n) (hN : n ≤ 8796093022208) (hc : Cls w a cs) :
    Calls Try.prog 3 #[.agg #[.int .i64 vars, .slice a n cap]] w fun e w' => e = .returned (.bool true) ∧ Below w.heap.size w w' := by
  have C7 := hid (small7 vars a n cap cs (w.alloc (.cells #[.int .i64 vars, .slice a n cap] 24)) hn hN (hc.below (below_box _ _)))
  have C8 := hid (fun (W : World) (hW : Below w.heap.size w W) => find8_all vars a n cap cs W hn (hc.below hW))
  have C9 := hid (fun (W : World) (hW : Below w.heap.size w W) => find9_all vars a n cap cs W hn (hc.below hW))
  have C10 := hid (fun (W : World) (hW : Below w.heap.size w W) => count10_all vars a n cap cs W hn (hc.below hW))
  have C11 := hid (fun (W : World) (hW : Below w.heap.size w W) => count11_all vars a n cap cs W hn (hc.below hW))
  generalize Tru.countV vars cs = cv at C10 C11
  generalize Tru.taken vars cs = tk at C10 C11
  clear hn hc hN
  go_enter Try.func3, Try.ntmps3
  go_wp2_with fail
  refine C7.out.mono ?_
  rintro e w1 ⟨⟨b, rfl, _⟩, hb⟩
  have far1 := hid (show Far w (.int .i64 vars) (.slice a n cap) w1 from hb)
  clear hb C7
  cases b
  · go_wp2
    go_ret
    exact ⟨rfl, far1.out.below⟩
  · have x0 := far1.out.c0
    have x1 := far1.out.c1
    go_wp2_with fail
    refine (C8.out _ far1.out.below).mono ?_
    rintro e w2 ⟨⟨a2, cap2, bs, ok, er, rfl, hb2, hf2⟩, hw2⟩
    have far2 := hid (far1.out.on hw2)
    clear hw2 C8 x0 x1
    have x0 := far2.out.c0
    have x1 := far2.out.c1
    have hlen := sameModel_len hf2
    obtain ⟨L, hL⟩ : ∃ L, bs.length = L := ⟨_, rfl⟩
    rw [hL] at hlen ⊢
    have HB2 := hid hb2
    have HF2 := hid hf2
    have HL := hid hL
    clear hb2 hf2 hL
    go_wp2_with fail
    refine (C9.out _ far2.out.below).mono ?_
    rintro e w3 ⟨⟨a3, cap3, bs3, ok3, er3, rfl, hb3, hf3⟩, hw3⟩
    obtain ⟨h1, h2, h3⟩ := HF2.out.unique hf3
    subst h1 h2 h3
    rw [HL.out]
    have far3 := hid (far2.out.on hw3)
    have HW3 := hid hw3
    have HB3 := hid hb3
    clear hw3 C9 x0 x1 hb3 hf3
    have x0 := far3.out.c0
    have x1 := far3.out.c1
    go_wp2_with fail
    refine (C10.out _ far3.out.below).mono ?_
    rintro e w4 ⟨rfl, hw4⟩
    have far4 := hid (far3.out.on hw4)
    have HW4 := hid hw4
    clear hw4 C10 x0 x1
    have x0 := far4.out.c0
    have x1 := far4.out.c1
    go_wp2_with fail
    refine (C11.out _ far4.out.below).mono ?_
    rintro e w5 ⟨rfl, hw5⟩
    have far5 := hid (far4.out.on hw5)
    have HW5 := hid hw5
    clear hw5 C11 x0 x1
    go_wp2_with fail
    have h45 := HW4.out.trans (HW5.out.mono HW4.out.size)
    have h35 := HW3.out.trans (h45.mono HW3.out.size)
    refine (sameModel12 a2 a3 L cap2 cap3 bs w5 HL.out (by omega) (HB2.out.below h35) (HB3.out.below h45)).mono ?_
    rintro e w6 ⟨rfl, hd6⟩
    have B6 := hid (hd6.below far5.out.below)
    clear hd6 h45 h35
    go_wp2_with fail
    refine (works13 w6).mono ?_
    rintro e w7 ⟨rfl, hw7⟩
    have B7 := hid (B6.out.trans (hw7.mono B6.out.size))
    clear hw7
    go_wp2
    go_ret
    exact ⟨rfl, B7.out⟩

set_option maxRecDepth 100000 in
set_option maxHeartbeats 8000000 in
theorem law4 (vars wars : Int) (a b ac : Option Addr) (n cap m dap mc capc : Nat) (cs ds : List (List Int)) (c : List Int) (w : World) (hn : cs.length = n) (hN : n ≤ 8796093022208) (hc : Cls w a cs) (hm : ds.length = m) (hM : m ≤ 8796093022208) (hd : Cls w b ds) (hcm : c.length = mc) (hcl : Lits w ac c) :
    Calls Try.prog 4 #[.agg #[.int .i64 vars, .slice a n cap], .agg #[.int .i64 wars, .slice b m dap], .slice ac mc capc] w fun e w' => e = .returned (.bool true) ∧ Below w.heap.size w w' := by
  have C7 := hid (fun (W : World) (hW : Below w.heap.size w W) => small7 vars a n cap cs W hn hN (hc.below hW))
  have D7 := hid (fun (W : World) (hW : Below w.heap.size w W) => small7 wars b m dap ds W hm hM (hd.below hW))
  have C14 := hid (fun (W : World) (hW : Below w.heap.size w W) (h : mc ≤ 100) => implies14_all vars a ac n cap mc capc cs c W hn (hc.below hW) hcm (by omega) (hcl.below hW))
  have C15 := hid (fun (W : World) (hW : Below w.heap.size w W) (h : mc ≤ 100) => implies15_all vars a ac n cap mc capc cs c W hn (hc.below hW) hcm (by omega) (hcl.below hW))
  have C16 := hid (fun (W : World) (hW : Below w.heap.size w W) => alike16_all vars wars a b n cap m dap cs ds W hn (hc.below hW) hm (hd.below hW))
  have C17 := hid (fun (W : World) (hW : Below w.heap.size w W) => alike17_all vars wars a b n cap m dap cs ds W hn (hc.below hW) hm (hd.below hW))
  generalize Tru.impB vars cs c = ib at C14 C15
  generalize Tru.impE vars cs c = ie at C14 C15
  generalize Tru.alB vars cs wars ds = ab at C16 C17
  generalize Tru.alE vars cs wars ds = ae at C16 C17
  have far0 := hid (Far2.zero w (.int .i64 vars) (.slice a n cap) (.int .i64 wars) (.slice b m dap))
  clear hn hc hN hm hM hd hcm hcl
  go_enter Try.func4, Try.ntmps4
  go_wp2_with fail
  refine (C7.out _ far0.out.below).mono ?_
  rintro e w1 ⟨⟨b1, rfl, _⟩, hb⟩
  have far1 := hid (far0.out.on hb)
  clear hb C7 far0
  cases b1
  · go_wp2
    go_ret
    exact ⟨rfl, far1.out.below⟩
  have x0 := far1.out.d0
  have x1 := far1.out.d1
  go_wp2_with fail
  refine (D7.out _ far1.out.below).mono ?_
  rintro e w2 ⟨⟨b2, rfl, _⟩, hb⟩
  have far2 := hid (far1.out.on hb)
  clear hb D7 x0 x1 far1
  cases b2
  · go_wp2
    go_ret
    exact ⟨rfl, far2.out.below⟩
  by_cases h100 : 100 < mc
  · have h100' : (100 : Int) < mc := by omega
    go_wp2
    go_ret
    exact ⟨rfl, far2.out.below⟩
  have h100' : ¬ (100 : Int) < mc := by omega
  have hmc : Hid (mc ≤ 100) := hid (by omega)
  have x0 := far2.out.c0
  have x1 := far2.out.c1
  go_wp2_with fail
  refine (C14.out _ far2.out.below hmc.out).mono ?_
  rintro e w3 ⟨rfl, hb⟩
  have far3 := hid (far2.out.on hb)
  clear hb C14 x0 x1 far2
  have x0 := far3.out.c0
  have x1 := far3.out.c1
  go_wp2_with fail
  refine (C15.out _ far3.out.below hmc.out).mono ?_
  rintro e w4 ⟨rfl, hb⟩
  have far4 := hid (far3.out.on hb)
  clear hb C15 x0 x1 far3
  have x0 := far4.out.c0
  have x1 := far4.out.c1
  have x2 := far4.out.d0
  have x3 := far4.out.d1
  go_wp2_with fail
  refine (C16.out _ far4.out.below).mono ?_
  rintro e w5 ⟨rfl, hb⟩
  have far5 := hid (far4.out.on hb)
  clear hb C16 x0 x1 x2 x3 far4
  have x0 := far5.out.c0
  have x1 := far5.out.c1
  have x2 := far5.out.d0
  have x3 := far5.out.d1
  go_wp2_with fail
  refine (C17.out _ far5.out.below).mono ?_
  rintro e w6 ⟨rfl, hb⟩
  have far6 := hid (far5.out.on hb)
  clear hb C17 x0 x1 x2 x3 far5
  go_wp2_with fail
  refine (works13 w6).mono ?_
  rintro e w7 ⟨rfl, hw7⟩
  have B7 := hid (far6.out.below.trans (hw7.mono far6.out.below.size))
  clear hw7
  go_wp2
  go_ret
  exact ⟨rfl, B7.out⟩
end Go.Proofs.Ytccncojidkdddaa
